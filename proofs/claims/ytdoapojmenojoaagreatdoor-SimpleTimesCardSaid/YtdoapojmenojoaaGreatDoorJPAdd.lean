import Derived.Test.YtdoapojmenojoaaGreatDoorJPSt
set_option linter.unusedSimpArgs false
set_option linter.unusedVariables false
section
/- An atom behind the pieces. -/
set_option linter.unusedVariables false
namespace Go.Proofs.YtdoapojmenojoaaGreatDoor
open Go.RowKit
open Sx (Nd)

theorem own_shape {S : Nat → Prop} {w : World} {base : Nat} {ty : TypeId} {v : Value} {l : List Nd} {n : Nat} (h : OwnN S w base ty v l) (hl : l.length = n + 1) : ∃ g cap, v = .slice (some ⟨g, 0, none⟩) (n + 1) cap ∧ base ≤ g ∧ g < w.heap.size ∧ (∀ o, w.frozen? ⟨g, o, none⟩ = false) ∧ ∀ j, j < (n + 1) * 7 → ∃ u, w.cell? ⟨g, j, none⟩ = some u := by
  obtain ⟨xs, ho, _⟩ := h
  rw [hl] at ho
  rcases ho.2 with ⟨_, h0⟩ | ⟨g, cap, cur, rfl, hb, hh, _⟩
  · omega
  · refine ⟨g, cap, rfl, hb, (Array.getElem?_eq_some_iff.1 hh).1, fun o => ho.frozenAt o, fun j hj => ?_⟩
    have h1 := ho.1
    exact ⟨xs[j]'(by omega), (ho.cellAt j hj).trans (List.getElem?_eq_getElem (by omega))⟩
/- a node that stands in a block of its own is appended -/
theorem wp_append_nodeF {P : Program} {o : Oper} {a : Act} {K : Act → World → Prop} {Q : Exit → Act → World → Prop} (s x : Operand) (t : TypeId)
    (ho : o.op = .call { callee := .builtin .append, args := #[s, x], argTypes := #[t, t] })
    (base : Nat) (e : TypeId) (ht : P.underlying t = some (.slice e)) (hi : (P.info? e).map (fun i => (i.zero, i.size, i.bytes)) = some (some (ndv 0 (.slice none 0 0) 0 0 false 0 (.slice none 0 0)), 7, 88))
    (S : Nat → Prop) (w : World) (v : Value) (l : List Nd) (k : Int) (ka : Option Addr) (ki kj : Nat) (mn mx : Int) (lz : Bool) (g : Int) (kb : Option Addr) (ks kt : Nat) (n : Nd) (hs : a.eval s = v) (hown : OwnN S w base e v l)
    (hx : a.eval x = .slice (some ⟨w.heap.size, 0, none⟩) 1 1) (hk : NodeS (fun b => S b ∧ b < w.heap.size ∧ v.ownBlock ≠ some b) w k (.slice ka ki kj) mn mx lz g (.slice kb ks kt) n) (hl : l.length ≤ 1000000) (hbase : base ≤ w.heap.size)
    (h : ∀ v' w', OwnN S w' base e v' (l ++ [n]) → w.grownBy w' v.ownBlock → (∀ g, v'.ownBlock = some g → v.ownBlock = some g ∨ w.heap.size ≤ g) → K (a.put o.dst v') w') :
    Oper.wp P o a (w.alloc (.cells #[.int .i64 k, .slice ka ki kj, .int .i64 mn, .int .i64 mx, .bool lz, .int .i64 g, .slice kb ks kt] e)) K Q := by
  obtain ⟨i0, hi, hz0, hz1, hz2⟩ := info_parts hi
  obtain ⟨xs, hox, hn⟩ := hown
  have h7 := Seven.box w k (.slice ka ki kj) mn mx lz g (.slice kb ks kt) e
  refine wp_append_new _ s x t ho base e i0 _ 7 88 ht hi hz0 hz1 hz2 rfl (by decide) v l.length xs hs (World.ownsRow.alloc hox _) ⟨w.heap.size, 0, none⟩ 1 1 [.int .i64 k, .slice ka ki kj, .int .i64 mn, .int .i64 mx, .bool lz, .int .i64 g, .slice kb ks kt] hx rfl (fun j u hj => ?_) (by intro u hu; simp at hu; rcases hu with rfl | rfl | rfl | rfl | rfl | rfl | rfl <;> rfl) (by unfold maxLen; omega) (by omega) (by simp; omega) ?_
  · rw [Addr.add_defn]
    obtain ⟨q0, q1, q2, q3, q4, q5, q6⟩ := h7
    match j, hj with
    | 0, hj => simp at hj; subst hj; exact q0
    | 1, hj => simp at hj; subst hj; exact q1
    | 2, hj => simp at hj; subst hj; exact q2
    | 3, hj => simp at hj; subst hj; exact q3
    | 4, hj => simp at hj; subst hj; exact q4
    | 5, hj => simp at hj; subst hj; exact q5
    | 6, hj => simp at hj; subst hj; exact q6
  · intro v' w' hown' hg hf
    refine h v' w' (OwnN.more hox hn hk hown' (grown_alloc hg) ?_) (grown_alloc hg) (fun b hb => ?_)
    · rcases hf with h | h
      · exact .inl h
      · exact .inr (fun b hb => by have := h b hb; simp at this; omega)
    · rcases hf with h | h
      · exact .inl (by rw [← h]; exact hb)
      · exact .inr (by have := h b hb; simp at this; omega)
theorem step_nodeF {P : Program} {ops : Array Oper} {o : Oper} {a : Act} {K : Act → World → Prop} {Q : Exit → Act → World → Prop} {E : Prop} (hgd : o.guard = none) (s x : Operand) (t : TypeId)
    (ho : o.op = .call { callee := .builtin .append, args := #[s, x], argTypes := #[t, t] })
    (base : Nat) (e : TypeId) (ht : P.underlying t = some (.slice e)) (hi : (P.info? e).map (fun i => (i.zero, i.size, i.bytes)) = some (some (ndv 0 (.slice none 0 0) 0 0 false 0 (.slice none 0 0)), 7, 88))
    (S : Nat → Prop) (w : World) (v : Value) (l : List Nd) (k : Int) (ka : Option Addr) (ki kj : Nat) (mn mx : Int) (lz : Bool) (g : Int) (kb : Option Addr) (ks kt : Nat) (n : Nd) (hs : a.eval s = v) (hown : OwnN S w base e v l)
    (hx : a.eval x = .slice (some ⟨w.heap.size, 0, none⟩) 1 1) (hk : NodeS (fun b => S b ∧ b < w.heap.size ∧ v.ownBlock ≠ some b) w k (.slice ka ki kj) mn mx lz g (.slice kb ks kt) n) (hl : l.length ≤ 1000000) (hbase : base ≤ w.heap.size)
    (h : ∀ v' w', OwnN S w' base e v' (l ++ [n]) → w.grownBy w' v.ownBlock → (∀ g, v'.ownBlock = some g → v.ownBlock = some g ∨ w.heap.size ≤ g) → K (a.put o.dst v') w') :
    if Region.wanted o (yielded ops a.tmps) = true then Oper.wp P o a (w.alloc (.cells #[.int .i64 k, .slice ka ki kj, .int .i64 mn, .int .i64 mx, .bool lz, .int .i64 g, .slice kb ks kt] e)) K Q else E := by
  have hw : Region.wanted o (yielded ops a.tmps) = true := by simp [Region.wanted, hgd]
  rw [if_pos hw]
  exact wp_append_nodeF s x t ho base e ht hi S w v l k ka ki kj mn mx lz g kb ks kt n hs hown hx hk hl hbase h
theorem setCell_comm (w : World) (a b : Addr) (u v : Value) (h : a.block ≠ b.block) : (w.setCell a u).setCell b v = (w.setCell b v).setCell a u := by
  unfold World.setCell
  simp only
  congr 1
  apply Array.ext
  · simp
  · intro i h1 h2
    simp only [Array.getElem_modify]
    by_cases e1 : b.block = i
    · have e2 : ¬ a.block = i := by omega
      simp [e1, e2]
    · by_cases e2 : a.block = i
      · simp [e1, e2]
      · simp [e1, e2]
theorem setAt7_comm (w : World) (g g2 o o2 : Nat) (hg : g ≠ g2) (x x0 x1 x2 x3 x4 x5 x6 : Value) : setAt7 (w.setCell ⟨g, o, none⟩ x) g2 o2 x0 x1 x2 x3 x4 x5 x6 = (setAt7 w g2 o2 x0 x1 x2 x3 x4 x5 x6).setCell ⟨g, o, none⟩ x := by
  unfold setAt7
  rw [setCell_comm w ⟨g, o, none⟩ ⟨g2, o2, none⟩ _ _ hg, setCell_comm _ ⟨g, o, none⟩ ⟨g2, o2 + 1, none⟩ _ _ hg, setCell_comm _ ⟨g, o, none⟩ ⟨g2, o2 + 2, none⟩ _ _ hg, setCell_comm _ ⟨g, o, none⟩ ⟨g2, o2 + 3, none⟩ _ _ hg, setCell_comm _ ⟨g, o, none⟩ ⟨g2, o2 + 4, none⟩ _ _ hg, setCell_comm _ ⟨g, o, none⟩ ⟨g2, o2 + 5, none⟩ _ _ hg, setCell_comm _ ⟨g, o, none⟩ ⟨g2, o2 + 6, none⟩ _ _ hg]
theorem ecells_set (va vl vl' : Value) (e : Sx.E) (L : List Ent) (la : List Nd) (b : Bool) : ((ecl L ++ ecells ⟨va, vl, e⟩).set (L.length * 4 + 2) vl').set (L.length * 4 + 3) (.bool b) = ecl L ++ ecells ⟨va, vl', ⟨e.g, e.ah, la, b⟩⟩ := by
  rw [List.set_append_right _ _ (by rw [ecl_len]; omega), List.set_append_right _ _ (by rw [ecl_len]; omega), ecl_len, Nat.add_sub_cancel_left, Nat.add_sub_cancel_left]
  rfl
/- behind the append: what the stack is -/
theorem add_end {base : Nat} {p : Nat → Prop} {v va : Value} {g cap n0 cap0 g2 cap2 : Nat} {p0 : Option Addr} {e : Sx.E} {L : List Ent} {w wB w' : World} {k mn mx gg : Int} {lz : Bool} {ka kb : Option Addr} {ki kj ks kt : Nat} {nd : Nd}
    (hv : v = .slice (some ⟨g, 0, none⟩) (L.length + 1) cap) (h : SK base w p v (⟨va, .slice p0 n0 cap0, e⟩ :: L)) (hn0 : n0 = e.la.length) (hpw : ∀ b, p b → b < w.heap.size) (hnd : NodeS (fun b => Fre base p v (⟨va, .slice p0 n0 cap0, e⟩ :: L) b ∧ b < w.heap.size) w k (.slice ka ki kj) mn mx lz gg (.slice kb ks kt) nd)
    (hs : ∀ b, b < w.heap.size → wB.heap[b]? = w.heap[b]?) (hsz : w.heap.size ≤ wB.heap.size) (hkB : Kp (fun b => v.ownBlock = some b ∨ (Value.slice p0 n0 cap0).ownBlock = some b) w wB)
    (how : OwnN (Fre base p v (⟨va, .slice p0 n0 cap0, e⟩ :: L)) w' base 29 (.slice (some ⟨g2, 0, none⟩) (n0 + 1) cap2) (e.la ++ [Sx.empty])) (hg : wB.grownBy w' (Value.slice p0 n0 cap0).ownBlock)
    (hf : ∀ b, (Value.slice (some ⟨g2, 0, none⟩) (n0 + 1) cap2).ownBlock = some b → (Value.slice p0 n0 cap0).ownBlock = some b ∨ wB.heap.size ≤ b) (hne : (Value.slice p0 n0 cap0).ownBlock ≠ some g) (hgg : g ≠ g2) (hgl : g < w.heap.size) :
    let W := (setAt7 w' g2 (n0 * 7) (.int .i64 k) (.slice ka ki kj) (.int .i64 mn) (.int .i64 mx) (.bool lz) (.int .i64 gg) (.slice kb ks kt)).setCell ⟨g, L.length * 4 + 2, none⟩ (.slice (some ⟨g2, 0, none⟩) (n0 + 1) cap2)
    W.cell? ⟨g, L.length * 4 + 3, none⟩ = some (.bool e.at') ∧ W.frozen? ⟨g, L.length * 4 + 3, none⟩ = false ∧ SK base (W.setCell ⟨g, L.length * 4 + 3, none⟩ (.bool true)) p v (⟨va, .slice (some ⟨g2, 0, none⟩) (n0 + 1) cap2, e.add nd⟩ :: L) ∧ Kp (UpX v ⟨va, .slice p0 n0 cap0, e⟩) w (W.setCell ⟨g, L.length * 4 + 3, none⟩ (.bool true)) := by
  intro W
  have hgw : w'.heap[g]? = w.heap[g]? := (hg.block g (Nat.lt_of_lt_of_le hgl hsz) (fun ee => hne ee.symm)).trans (hs g hgl)
  have hrow : w'.ownsRow base 73 4 v (L.length + 1) (ecl L ++ ecells ⟨va, .slice p0 n0 cap0, e⟩) := by
    have hr := h.row
    rw [ecl_cons] at hr
    refine ⟨hr.1, ?_⟩
    rcases hr.2 with ⟨_, h0⟩ | ⟨g', cap', cur, e1, hb, hh, hrest⟩
    · simp at h0
    · rw [hv] at e1
      simp only [Value.slice.injEq, Option.some.injEq, Addr.mk.injEq, and_true] at e1
      obtain ⟨⟨rfl, _⟩, _, rfl⟩ := e1
      exact .inr ⟨g, cap, cur, hv, hb, hgw.trans hh, hrest⟩
  have hb7 : (setAt7 w' g2 (n0 * 7) (.int .i64 k) (.slice ka ki kj) (.int .i64 mn) (.int .i64 mx) (.bool lz) (.int .i64 gg) (.slice kb ks kt)).heap[g]? = w'.heap[g]? := setAt7_block _ _ _ _ _ _ _ _ _ _ g hgg
  have hrow7 : (setAt7 w' g2 (n0 * 7) (.int .i64 k) (.slice ka ki kj) (.int .i64 mn) (.int .i64 mx) (.bool lz) (.int .i64 gg) (.slice kb ks kt)).ownsRow base 73 4 v (L.length + 1) (ecl L ++ ecells ⟨va, .slice p0 n0 cap0, e⟩) := by
    refine ⟨hrow.1, ?_⟩
    rcases hrow.2 with ⟨_, h0⟩ | ⟨g', cap', cur, e1, hb, hh, hrest⟩
    · simp at h0
    · rw [hv] at e1
      simp only [Value.slice.injEq, Option.some.injEq, Addr.mk.injEq, and_true] at e1
      obtain ⟨⟨rfl, _⟩, _, rfl⟩ := e1
      exact .inr ⟨g, cap, cur, hv, hb, hb7.trans hh, hrest⟩
  subst hv
  have s2 := (hrow7.stored (L.length * 4 + 2) (.slice (some ⟨g2, 0, none⟩) (n0 + 1) cap2)).1
  have s3 := (s2.stored (L.length * 4 + 3) (.bool true)).1
  rw [ecells_set (la := e.la ++ [nd])] at s3
  have hc3 : W.cell? ⟨g, L.length * 4 + 3, none⟩ = some (.bool e.at') := by
    rw [s2.cellAt _ (by omega), List.getElem?_set_ne (by omega), List.getElem?_append_right (by rw [ecl_len]; omega), ecl_len, Nat.add_sub_cancel_left]
    rfl
  have hg2 : ∀ b, b < w.heap.size → (Fre base p (.slice (some ⟨g, 0, none⟩) (L.length + 1) cap) (⟨va, .slice p0 n0 cap0, e⟩ :: L) b) → b ≠ g2 ∧ b ≠ g ∧ w'.heap[b]? = w.heap[b]? := fun b hb hfr => by
    obtain ⟨f1, f2, f3, f4⟩ := hfr
    have hn : (Value.slice p0 n0 cap0).ownBlock ≠ some b := f4 _ (by rw [rws_cons]; simp)
    refine ⟨fun ee => ?_, fun ee => f3 (by rw [ee]; rfl), (hg.block b (Nat.lt_of_lt_of_le hb hsz) (fun ee => hn ee.symm)).trans (hs b hb)⟩
    rcases hf b (by rw [ee]; rfl) with hh | hh
    · exact hn hh
    · omega
  have hnd' : NodeS (fun b => Fre base p (.slice (some ⟨g, 0, none⟩) (L.length + 1) cap) (⟨va, .slice p0 n0 cap0, e⟩ :: L) b ∧ b < w'.heap.size ∧ b ≠ g2) w' k (.slice ka ki kj) mn mx lz gg (.slice kb ks kt) nd := hnd.mono (fun b hb => by
    have := hg2 b hb.2 hb.1
    exact ⟨⟨hb.1, Nat.lt_of_lt_of_le hb.2 (Nat.le_trans hsz hg.size), this.1⟩, this.2.2⟩)
  have hown := OwnN.setAt how (i := n0) (by rw [List.length_append, hn0]; simp) hnd'
  rw [show (e.la ++ [Sx.empty]).set n0 nd = e.la ++ [nd] by rw [hn0, List.set_append_right _ _ (Nat.le_refl _), Nat.sub_self]; rfl] at hown
  have hW : ∀ b, b ≠ g → (W.setCell ⟨g, L.length * 4 + 3, none⟩ (.bool true)).heap[b]? = (setAt7 w' g2 (n0 * 7) (.int .i64 k) (.slice ka ki kj) (.int .i64 mn) (.int .i64 mx) (.bool lz) (.int .i64 gg) (.slice kb ks kt)).heap[b]? := fun b hb => by
    rw [Below.heap_setCell _ _ _ _ hb, Below.heap_setCell _ _ _ _ hb]
  have hWs : (W.setCell ⟨g, L.length * 4 + 3, none⟩ (.bool true)).heap.size = w'.heap.size := by
    have h1 : (W.setCell ⟨g, L.length * 4 + 3, none⟩ (.bool true)).heap.size = W.heap.size := by simp [World.setCell]
    have h2 : W.heap.size = (setAt7 w' g2 (n0 * 7) (.int .i64 k) (.slice ka ki kj) (.int .i64 mn) (.int .i64 mx) (.bool lz) (.int .i64 gg) (.slice kb ks kt)).heap.size := by simp [W, World.setCell]
    rw [h1, h2, setAt7_size]
  have hkp : Kp (fun b => (Value.slice (some ⟨g, 0, none⟩) (L.length + 1) cap).ownBlock = some b ∨ (Value.slice p0 n0 cap0).ownBlock = some b) w (W.setCell ⟨g, L.length * 4 + 3, none⟩ (.bool true)) := by
    have k1 : Kp (fun b => (Value.slice (some ⟨g, 0, none⟩) (L.length + 1) cap).ownBlock = some b ∨ (Value.slice p0 n0 cap0).ownBlock = some b) w w' := hkB.grown hg (fun b hb => .inl (.inr hb))
    have k2 := k1.setAt7 (g := g2) (by rcases hf g2 rfl with hh | hh; exact .inl (.inr hh); exact .inr (Nat.le_trans hsz hh)) (n0 * 7) (.int .i64 k) (.slice ka ki kj) (.int .i64 mn) (.int .i64 mx) (.bool lz) (.int .i64 gg) (.slice kb ks kt)
    exact (k2.set ⟨g, L.length * 4 + 2, none⟩ (.inl (.inl rfl)) _).set ⟨g, L.length * 4 + 3, none⟩ (.inl (.inl rfl)) _
  refine ⟨hc3, s2.frozenAt _, ?_, hkp.mono (fun b _ hb => hb.elim .inl (fun hb => .inr (.inr hb)))⟩
  refine h.updL (e' := e.add nd) rfl hkp s3 ?_ (fun b hb => ?_) hpw
  · refine OwnN.monoS hown (fun b hb => hW b (fun ee => hgg (by rw [← ee]; simpa [Value.ownBlock] using hb.symm))) (by rw [hWs, setAt7_size]; exact Nat.le_refl _) (fun b hb hlt hnb => ?_)
    have hbg : b ≠ g := fun ee => hb.2.2.1 (by rw [ee]; rfl)
    refine ⟨⟨hb.1, hb.2.1, hb.2.2.1, fun u hu => ?_⟩, hW b hbg⟩
    rw [rws_cons] at hu
    have hb4 := hb.2.2.2
    rw [rws_cons] at hb4
    rcases List.mem_cons.1 hu with rfl | hu
    · exact hb4 _ (by simp)
    · rcases List.mem_cons.1 hu with rfl | hu
      · exact hnb
      · exact hb4 u (by simp [hu])
  · rcases hf b hb with hh | hh
    · exact .inl hh
    · exact .inr (Nat.le_trans hsz hh)
/- what stands in the world in which it is appended -/
structure AddSt (base : Nat) (p : Nat → Prop) (v va : Value) (e : Sx.E) (L : List Ent) (w : World) (vl : Value) (wd : World) : Prop where
  own : OwnN (Fre base p v (⟨va, vl, e⟩ :: L)) wd base 29 vl e.la
  kp : ∀ X, Kp X w wd
  same : ∀ b, b < w.heap.size → wd.heap[b]? = w.heap[b]?
  size : w.heap.size ≤ wd.heap.size
set_option maxRecDepth 20000 in
set_option maxHeartbeats 8000000 in
theorem add_any (base : Nat) (p : Nat → Prop) (v : Value) (g cap : Nat) (x : Ent) (L : List Ent) (w : World) (k mn mx gg : Int) (lz : Bool) (ka kb : Option Addr) (ki kj ks kt : Nat) (nd : Nd) (hv : v = .slice (some ⟨g, 0, none⟩) (L.length + 1) cap) (h : SK base w p v (x :: L)) (hn : L.length ≤ 100000) (hl : x.e.la.length ≤ 100000) (hbw : base ≤ w.heap.size) (hpw : ∀ b, p b → b < w.heap.size)
    (hnd : NodeS (fun b => Fre base p v (x :: L) b ∧ b < w.heap.size) w k (.slice ka ki kj) mn mx lz gg (.slice kb ks kt) nd) :
    Calls Tryz.prog 107 #[.pointer (some ⟨g, L.length * 4, none⟩), ndv k (.slice ka ki kj) mn mx lz gg (.slice kb ks kt)] w fun e w' => e = .returned (.tuple #[]) ∧ ∃ vl', SK base w' p v (⟨x.va, vl', x.e.add nd⟩ :: L) ∧ Kp (UpX v x) w w' := by
  obtain ⟨va, vl, e⟩ := x
  obtain ⟨g', cap', hv', hbg, hgl, hgp, hgc, c0, c1, c2, c3, cf⟩ := h.inner
  rw [hv] at hv'
  simp only [Value.slice.injEq, Option.some.injEq, Addr.mk.injEq, and_true, true_and] at hv'
  obtain ⟨rfl, rfl⟩ := hv'
  have hO := (h.rows _ (List.mem_cons_self ..)).2
  simp only at hO c0 c1 c2 c3 hl
  obtain ⟨p0, cap0, rfl⟩ := own_slice hO
  obtain ⟨n0, hn0⟩ : ∃ n0, n0 = e.la.length := ⟨_, rfl⟩
  have HN0 := Lib.hid hn0
  rw [← hn0] at h hnd hO c2 ⊢
  have hne : (Value.slice p0 n0 cap0).ownBlock ≠ some g := fun ee => (List.pairwise_cons.1 h.apart).1 (.slice p0 n0 cap0) (by rw [rws_cons]; simp) g (by rw [hv]; rfl) ee
  have HSK := Lib.hid h
  have HND := Lib.hid hnd
  have HV := Lib.hid hv
  have hlL : n0 ≤ 100000 := by rw [hn0]; exact hl
  have HNE := Lib.hid hne
  clear h hnd hv hn0 hl hne
  unfold ndv
  go_enter Tryz.func107, Tryz.ntmps107
  go_wp2_with fail
  have hbx := Seven.box w k (.slice ka ki kj) mn mx lz gg (.slice kb ks kt) 29
  have HA := Lib.hid (show AddSt base p v va e L w (.slice p0 n0 cap0) (w.alloc (.cells #[.int .i64 k, .slice ka ki kj, .int .i64 mn, .int .i64 mx, .bool lz, .int .i64 gg, .slice kb ks kt] 29)) from ⟨hO.kept (below_new w _), fun X => (Kp.refl X w).alloc _, fun b hb => Below.heap_alloc _ _ _ hb, by simp⟩)
  have cfB := (frozen_of_block (w := w) (a := ⟨g, L.length * 4 + 2, none⟩) (Below.heap_alloc w (.cells #[.int .i64 k, .slice ka ki kj, .int .i64 mn, .int .i64 mx, .bool lz, .int .i64 gg, .slice kb ks kt] 29) g hgl)).trans (cf (L.length * 4 + 2))
  have c2' := (cell_alloc_old hgl (.cells #[.int .i64 k, .slice ka ki kj, .int .i64 mn, .int .i64 mx, .bool lz, .int .i64 gg, .slice kb ks kt] 29) (L.length * 4 + 2)).trans c2
  have hBs : w.heap.size < (w.alloc (.cells #[.int .i64 k, .slice ka ki kj, .int .i64 mn, .int .i64 mx, .bool lz, .int .i64 gg, .slice kb ks kt] 29)).heap.size := by simp
  clear hO c0 c1 c2 c3
  generalize (w.alloc (.cells #[.int .i64 k, .slice ka ki kj, .int .i64 mn, .int .i64 mx, .bool lz, .int .i64 gg, .slice kb ks kt] 29)) = wB at hbx HA c2' hBs cfB ⊢
  obtain ⟨b0, b1, b2, b3, b4, b5, b6⟩ := hbx
  simp only [Nat.zero_add] at b0 b1 b2 b3 b4 b5 b6
  have HOD := Lib.hid (HA.out.own.kept ((Below.refl _ wB).drew))
  generalize w.heap.size = B at b0 b1 b2 b3 b4 b5 b6 hBs
  have hgB : g < wB.heap.size := Nat.lt_of_lt_of_le hgl HA.out.size
  go_region_law (first | (refine step_nodeF (by rfl) _ _ 27 (by rfl) base 29 Tryz.underlying27 Tryz.infoSN (Fre base p v (⟨va, .slice p0 n0 cap0, e⟩ :: L)) wB.drew (.slice p0 n0 cap0) e.la 0 none 0 0 0 0 false 0 none 0 0 Sx.empty (by rfl) (by exact HOD.out) (by rfl) (by exact nodeS_mk (kids := []) (by decide) (by simp) (by rw [KidsS]; trivial)) (by have := HN0.out; omega) (by have := HA.out.size; simp; omega) ?_; intro v' w' hown' hg' hf'; obtain ⟨g2, cap2, rfl, hb2, hl2, fz2, hc2⟩ := own_shape hown' (n := n0) (by rw [List.length_append, HN0.out]; rfl); have hgg : g ≠ g2 := fun ee => (by rcases hf' g2 rfl with hh | hh <;> first | exact HNE.out (by rw [hh, ee]) | (have h1 := HA.out.size; simp at hh; omega)); have hkg := hg'.block g hgB (fun ee => HNE.out ee.symm); have c9 := (cell_of_block (a := ⟨g, L.length * 4 + 2, none⟩) hkg).trans c2'; have HOW := Lib.hid hown'; have HGB := Lib.hid hg'; have HFR := Lib.hid hf'; obtain ⟨u0, y0⟩ := hc2 (n0 * 7) (by omega); obtain ⟨u1, y1⟩ := hc2 (n0 * 7 + 1) (by omega); obtain ⟨u2, y2⟩ := hc2 (n0 * 7 + 2) (by omega); obtain ⟨u3, y3⟩ := hc2 (n0 * 7 + 3) (by omega); obtain ⟨u4, y4⟩ := hc2 (n0 * 7 + 4) (by omega); obtain ⟨u5, y5⟩ := hc2 (n0 * 7 + 5) (by omega); obtain ⟨u6, y6⟩ := hc2 (n0 * 7 + 6) (by omega); have cf9 : w'.frozen? ⟨g, L.length * 4 + 2, none⟩ = false := (frozen_of_block (a := ⟨g, L.length * 4 + 2, none⟩) hkg).trans cfB; have hi9 : (n0 : Int) < (n0 : Int) + 1 := (by omega); clear hown' hg' hf' hc2 hkg))
  all_goals
    have HE := Lib.hid (add_end HV.out HSK.out HN0.out hpw HND.out HA.out.same HA.out.size (HA.out.kp _) HOW.out (show wB.grownBy w' (Value.slice p0 n0 cap0).ownBlock from ⟨HGB.out.os, HGB.out.tape, HGB.out.output, HGB.out.size, HGB.out.block⟩) HFR.out HNE.out hgg hgl)
    first
      | with_reducible change Exit.then _ _ _ _ ((setAt7 w' g2 (n0 * 7) (.int .i64 k) (.slice ka ki kj) (.int .i64 mn) (.int .i64 mx) (.bool lz) (.int .i64 gg) (.slice kb ks kt)).setCell ⟨g, L.length * 4 + 2, none⟩ (.slice (some ⟨g2, 0, none⟩) (n0 + 1) cap2))
      | (with_reducible change Exit.then _ _ _ _ (setAt7 (w'.setCell ⟨g, L.length * 4 + 2, none⟩ (.slice (some ⟨g2, 0, none⟩) (n0 + 1) cap2)) g2 (n0 * 7) (.int .i64 k) (.slice ka ki kj) (.int .i64 mn) (.int .i64 mx) (.bool lz) (.int .i64 gg) (.slice kb ks kt)); rw [setAt7_comm _ g g2 _ _ hgg])
    clear HA HOW HGB HFR HSK HND HOD y0 y1 y2 y3 y4 y5 y6 c9 cf9 hi9 b0 b1 b2 b3 b4 b5 b6 cf c2' cfB fz2
    obtain ⟨d3, df, hsk, hkk⟩ := HE.out
    have HF := Lib.hid hsk
    have HKK := Lib.hid hkk
    clear hsk hkk HE
    generalize ((setAt7 w' g2 (n0 * 7) (.int .i64 k) (.slice ka ki kj) (.int .i64 mn) (.int .i64 mx) (.bool lz) (.int .i64 gg) (.slice kb ks kt)).setCell ⟨g, L.length * 4 + 2, none⟩ (.slice (some ⟨g2, 0, none⟩) (n0 + 1) cap2)) = W at d3 df HF HKK ⊢
    go_wp2_with fail
    go_end0
    exact ⟨rfl, _, HF.out, HKK.out⟩
end Go.Proofs.YtdoapojmenojoaaGreatDoor
end

section
/- A sequence ends: it stands behind the ones ahead. -/
set_option linter.unusedVariables false
namespace Go.Proofs.YtdoapojmenojoaaGreatDoor
open Go.RowKit
open Sx (Nd)

/- more nodes are appended, wherever they stand, in a region that draws -/
theorem step_nodesF {P : Program} {ops : Array Oper} {o : Oper} {a : Act} {K : Act → World → Prop} {Q : Exit → Act → World → Prop} {E : Prop} (hgd : o.guard = none) (s x : Operand) (t : TypeId)
    (ho : o.op = .call { callee := .builtin .append, args := #[s, x], argTypes := #[t, t] })
    (base : Nat) (e : TypeId) (ht : P.underlying t = some (.slice e)) (hi : (P.info? e).map (fun i => (i.zero, i.size, i.bytes)) = some (some (ndv 0 (.slice none 0 0) 0 0 false 0 (.slice none 0 0)), 7, 88))
    (S : Nat → Prop) (w : World) (v : Value) (l r : List Nd) (b off c m : Nat) (hm : m = r.length) (hs : a.eval s = v) (hown : OwnN S w base e v l)
    (hx : a.eval x = .slice (some ⟨b, off, none⟩) m c) (hk : KidsS (fun b => S b ∧ b < w.heap.size ∧ v.ownBlock ≠ some b) w (some ⟨b, off, none⟩) 0 r) (hl : l.length + r.length ≤ 1000000) (hbase : base ≤ w.heap.size)
    (h : ∀ v' w', OwnN S w' base e v' (l ++ r) → w.grownBy w' v.ownBlock → (∀ g, v'.ownBlock = some g → v.ownBlock = some g ∨ w.heap.size ≤ g) → K (a.put o.dst v') w') :
    if Region.wanted o (yielded ops a.tmps) = true then Oper.wp P o a w K Q else E := by
  have hw : Region.wanted o (yielded ops a.tmps) = true := by simp [Region.wanted, hgd]
  rw [if_pos hw]
  subst hm
  obtain ⟨i0, hi, hz0, hz1, hz2⟩ := info_parts hi
  obtain ⟨news, hnl, hnc, hn1, hnk⟩ := kidsS_news hk
  obtain ⟨xs, hox, hn⟩ := hown
  refine wp_append_new w s x t ho base e i0 _ 7 88 ht hi hz0 hz1 hz2 rfl (by decide) v l.length xs hs hox ⟨b, off, none⟩ r.length c news hx hnl (fun j u hj => ?_) hn1 (by unfold maxLen; omega) (by omega) hbase ?_
  · rw [Addr.add_defn]
    have := hnc j u hj
    simpa using this
  · intro v' w' hown' hg hf
    refine h v' w' (OwnN.moreL ⟨xs, hox, hn⟩ hnl hnk (fun xs' hxs' => ?_) hg hf) hg (fun b hb => ?_)
    · obtain rfl : xs' = xs := by
        rcases hxs'.2 with ⟨e1, e2⟩ | ⟨g, cap, cur, e1, _, e3, _, _, _, e4⟩
        · rcases hox.2 with ⟨_, e5⟩ | ⟨g2, cap2, cur2, f1, _⟩
          · have h1 := hxs'.1; have h2 := hox.1
            rw [e2] at h1 h2
            exact (List.eq_nil_of_length_eq_zero (l := xs') (by simpa using h1)).trans (List.eq_nil_of_length_eq_zero (l := xs) (by simpa using h2)).symm
          · rw [e1] at f1; cases f1
        · rcases hox.2 with ⟨f1, _⟩ | ⟨g2, cap2, cur2, f1, _, f3, _, _, _, f4⟩
          · rw [e1] at f1; cases f1
          · rw [e1] at f1; cases f1
            rw [e3] at f3; cases f3
            rw [← e4, ← f4]
      exact hown'
    · rcases hf with h | h
      · exact .inl (by rw [← h]; exact hb)
      · exact .inr (h b hb)
theorem own_kids2 {S S' : Nat → Prop} {w : World} {base : Nat} {ty : TypeId} {v : Value} {l : List Nd} (h : OwnN S w base ty v l) (hS : ∀ b, S b → b < w.heap.size → v.ownBlock ≠ some b → S' b) (hB : ∀ g, v.ownBlock = some g → S' g) :
    ∃ p cap, v = .slice p l.length cap ∧ KidsS S' w p 0 l := by
  obtain ⟨xs, ho, hn⟩ := h
  rcases ho.2 with ⟨rfl, h0⟩ | ⟨g, cap, cur, rfl, hbg, hg, hnc, hcm, hcs, htake⟩
  · obtain rfl : l = [] := List.eq_nil_of_length_eq_zero h0
    exact ⟨none, 0, rfl, by rw [KidsS]; trivial⟩
  · refine ⟨_, cap, rfl, (kidsS_from _ _ _ _ _).2 (fun j n hj => ?_)⟩
    obtain ⟨k, vc, mn, mx, lz, gg, vl, x0, x1, x2, x3, x4, x5, x6, hh⟩ := hn j n hj
    have hjl := (List.getElem?_eq_some_iff.1 hj).1
    have hc : ∀ t, t < 7 → w.cell? ⟨g, 0 + (0 + j) * 7 + t, none⟩ = xs[j * 7 + t]? := fun t ht => by
      rw [Nat.zero_add, Nat.zero_add]
      exact ho.cellAt _ (by omega)
    exact ⟨g, 0, k, vc, mn, mx, lz, gg, vl, rfl, hB g rfl, ⟨(hc 0 (by omega)).trans x0, (hc 1 (by omega)).trans x1, (hc 2 (by omega)).trans x2, (hc 3 (by omega)).trans x3, (hc 4 (by omega)).trans x4, (hc 5 (by omega)).trans x5, (hc 6 (by omega)).trans x6⟩, hh.mono (fun b hb => ⟨hS b hb.1 hb.2.1 hb.2.2, rfl⟩)⟩
theorem ecells_turn (va vl va' vl' : Value) (e : Sx.E) (L : List Ent) (ah la : List Nd) (b : Bool) : (((ecl L ++ ecells ⟨va, vl, e⟩).set (L.length * 4 + 1) va').set (L.length * 4 + 2) vl').set (L.length * 4 + 3) (.bool b) = ecl L ++ ecells ⟨va', vl', ⟨e.g, ah, la, b⟩⟩ := by
  rw [List.set_append_right _ _ (by rw [ecl_len]; omega), List.set_append_right _ _ (by rw [ecl_len]; omega), List.set_append_right _ _ (by rw [ecl_len]; omega), ecl_len, Nat.add_sub_cancel_left, Nat.add_sub_cancel_left, Nat.add_sub_cancel_left]
  rfl
/- blocks that nodes may lie in once the last pieces are let go -/
abbrev FreT (base : Nat) (p : Nat → Prop) (v va : Value) (e : Sx.E) (L : List Ent) : Nat → Prop := Fre base p v (⟨va, .slice none 0 0, e⟩ :: L)
theorem freT_of {base : Nat} {p : Nat → Prop} {v va vl : Value} {e e' : Sx.E} {L : List Ent} {b : Nat} (h : Fre base p v (⟨va, vl, e⟩ :: L) b) : FreT base p v va e' L b := by
  obtain ⟨h1, h2, h3, h4⟩ := h
  refine ⟨h1, h2, h3, fun u hu => ?_⟩
  rw [rws_cons] at hu h4
  rcases List.mem_cons.1 hu with rfl | hu
  · exact h4 _ (by simp)
  · rcases List.mem_cons.1 hu with rfl | hu
    · intro e; simp [Value.ownBlock] at e
    · exact h4 u (by simp [hu])
/- the row of last pieces lies in such a block -/
theorem freT_row {base : Nat} {p : Nat → Prop} {w : World} {v va vl : Value} {e e' : Sx.E} {L : List Ent} (h : SK base w p v (⟨va, vl, e⟩ :: L)) {g : Nat} (hg : vl.ownBlock = some g) : FreT base p v va e' L g := by
  have hap := h.apart
  rw [rws_cons, List.pairwise_cons, List.pairwise_cons, List.pairwise_cons] at hap
  have hlt := ownN_lt (h.rows _ (List.mem_cons_self ..)).2 hg
  refine ⟨hlt.1, h.notp vl (by rw [rws_cons]; simp) g hg, fun ee => hap.1 vl (by simp) g ee hg, fun u hu => ?_⟩
  rw [rws_cons] at hu
  rcases List.mem_cons.1 hu with rfl | hu
  · exact fun ee => hap.2.1 vl (by simp) g ee hg
  · rcases List.mem_cons.1 hu with rfl | hu
    · intro ee; simp [Value.ownBlock] at ee
    · exact fun ee => hap.2.2.1 u hu g hg ee
theorem turn_kids {base : Nat} {p : Nat → Prop} {w : World} {v va vl : Value} {e : Sx.E} {L : List Ent} (h : SK base w p v (⟨va, vl, e⟩ :: L)) : ∃ q cap, vl = .slice q e.la.length cap ∧ KidsS (fun b => FreT base p v va e L b ∧ b < w.heap.size) w q 0 e.la := by
  have hr := (h.rows _ (List.mem_cons_self ..)).2
  exact own_kids2 hr (fun b hb hlt _ => ⟨freT_of hb, hlt⟩) (fun g hg => ⟨freT_row h hg, (ownN_lt hr hg).2⟩)
/- behind the append: what the stack is -/
theorem turn_end {base : Nat} {p : Nat → Prop} {v vl : Value} {g cap n0 cap0 g2 cap2 : Nat} {p0 : Option Addr} {e : Sx.E} {L : List Ent} {w w1 w' : World} {k mn mx gg : Int} {lz : Bool} {ka kb : Option Addr} {ki kj ks kt : Nat} {nd : Nd}
    (hv : v = .slice (some ⟨g, 0, none⟩) (L.length + 1) cap) (h : SK base w p v (⟨.slice p0 n0 cap0, vl, e⟩ :: L)) (hn0 : n0 = e.ah.length) (hpw : ∀ b, p b → b < w.heap.size) (hnd : NodeS (fun b => (FreT base p v (.slice p0 n0 cap0) e L b ∧ b < w.heap.size) ∨ (w.heap.size ≤ b ∧ b < w1.heap.size)) w1 k (.slice ka ki kj) mn mx lz gg (.slice kb ks kt) nd)
    (hs : ∀ b, b < w.heap.size → w1.heap[b]? = w.heap[b]?) (hsz : w.heap.size ≤ w1.heap.size) (hkB : Kp (fun b => v.ownBlock = some b ∨ (Value.slice p0 n0 cap0).ownBlock = some b) w w1)
    (how : OwnN (FreT base p v (.slice p0 n0 cap0) e L) w' base 29 (.slice (some ⟨g2, 0, none⟩) (n0 + 1) cap2) (e.ah ++ [Sx.empty])) (hg : w1.grownBy w' (Value.slice p0 n0 cap0).ownBlock)
    (hf : ∀ b, (Value.slice (some ⟨g2, 0, none⟩) (n0 + 1) cap2).ownBlock = some b → (Value.slice p0 n0 cap0).ownBlock = some b ∨ w1.heap.size ≤ b) (hne : (Value.slice p0 n0 cap0).ownBlock ≠ some g) (hgg : g ≠ g2) (hgl : g < w.heap.size) :
    let W := (setAt7 w' g2 (n0 * 7) (.int .i64 k) (.slice ka ki kj) (.int .i64 mn) (.int .i64 mx) (.bool lz) (.int .i64 gg) (.slice kb ks kt)).setCell ⟨g, L.length * 4 + 1, none⟩ (.slice (some ⟨g2, 0, none⟩) (n0 + 1) cap2)
    W.cell? ⟨g, L.length * 4 + 2, none⟩ = some vl ∧ W.cell? ⟨g, L.length * 4 + 3, none⟩ = some (.bool e.at') ∧ (∀ o, W.frozen? ⟨g, o, none⟩ = false) ∧
    SK base ((W.setCell ⟨g, L.length * 4 + 2, none⟩ (.slice none 0 0)).setCell ⟨g, L.length * 4 + 3, none⟩ (.bool false)) p v (⟨.slice (some ⟨g2, 0, none⟩) (n0 + 1) cap2, .slice none 0 0, ⟨e.g, e.ah ++ [nd], [], false⟩⟩ :: L) ∧
    Kp (fun b => v.ownBlock = some b ∨ (Value.slice p0 n0 cap0).ownBlock = some b) w ((W.setCell ⟨g, L.length * 4 + 2, none⟩ (.slice none 0 0)).setCell ⟨g, L.length * 4 + 3, none⟩ (.bool false)) := by
  intro W
  have hgw : w'.heap[g]? = w.heap[g]? := (hg.block g (Nat.lt_of_lt_of_le hgl hsz) (fun ee => hne ee.symm)).trans (hs g hgl)
  have hb7 : (setAt7 w' g2 (n0 * 7) (.int .i64 k) (.slice ka ki kj) (.int .i64 mn) (.int .i64 mx) (.bool lz) (.int .i64 gg) (.slice kb ks kt)).heap[g]? = w'.heap[g]? := setAt7_block _ _ _ _ _ _ _ _ _ _ g hgg
  have hrow7 : (setAt7 w' g2 (n0 * 7) (.int .i64 k) (.slice ka ki kj) (.int .i64 mn) (.int .i64 mx) (.bool lz) (.int .i64 gg) (.slice kb ks kt)).ownsRow base 73 4 v (L.length + 1) (ecl L ++ ecells ⟨.slice p0 n0 cap0, vl, e⟩) := by
    have hr := h.row
    rw [ecl_cons] at hr
    refine ⟨hr.1, ?_⟩
    rcases hr.2 with ⟨_, h0⟩ | ⟨g', cap', cur, e1, hb, hh, hrest⟩
    · simp at h0
    · rw [hv] at e1
      simp only [Value.slice.injEq, Option.some.injEq, Addr.mk.injEq, and_true] at e1
      obtain ⟨⟨rfl, _⟩, _, rfl⟩ := e1
      exact .inr ⟨g, cap, cur, hv, hb, (hb7.trans hgw).trans hh, hrest⟩
  subst hv
  have s1 := (hrow7.stored (L.length * 4 + 1) (.slice (some ⟨g2, 0, none⟩) (n0 + 1) cap2)).1
  have s2 := (s1.stored (L.length * 4 + 2) (.slice none 0 0)).1
  have s3 := (s2.stored (L.length * 4 + 3) (.bool false)).1
  rw [ecells_turn (ah := e.ah ++ [nd]) (la := [])] at s3
  have hc2 : W.cell? ⟨g, L.length * 4 + 2, none⟩ = some vl := by
    rw [s1.cellAt _ (by omega), List.getElem?_set_ne (by omega), List.getElem?_append_right (by rw [ecl_len]; omega), ecl_len, Nat.add_sub_cancel_left]
    rfl
  have hc3 : W.cell? ⟨g, L.length * 4 + 3, none⟩ = some (.bool e.at') := by
    rw [s1.cellAt _ (by omega), List.getElem?_set_ne (by omega), List.getElem?_append_right (by rw [ecl_len]; omega), ecl_len, Nat.add_sub_cancel_left]
    rfl
  have hap := h.apart
  rw [rws_cons, List.pairwise_cons, List.pairwise_cons, List.pairwise_cons] at hap
  have hnd' : NodeS (fun b => FreT base p (.slice (some ⟨g, 0, none⟩) (L.length + 1) cap) (.slice p0 n0 cap0) e L b ∧ b < w'.heap.size ∧ b ≠ g2) w' k (.slice ka ki kj) mn mx lz gg (.slice kb ks kt) nd := hnd.mono (fun b hb => by
    have hva : (Value.slice p0 n0 cap0).ownBlock ≠ some b ∧ FreT base p (.slice (some ⟨g, 0, none⟩) (L.length + 1) cap) (.slice p0 n0 cap0) e L b ∧ b < w1.heap.size := by
      rcases hb with ⟨hb, hl⟩ | ⟨h1, h2⟩
      · exact ⟨hb.2.2.2 _ (by rw [rws_cons]; simp), hb, Nat.lt_of_lt_of_le hl hsz⟩
      · refine ⟨fun ee => by have := (ownN_lt (h.rows _ (List.mem_cons_self ..)).1 ee).2; omega, ⟨?_, ?_, ?_, fun u hu => ?_⟩, h2⟩
        · have := (h.row.lt g rfl); omega
        · intro hpb; have := hpw b hpb; omega
        · intro ee; simp [Value.ownBlock] at ee; omega
        · intro ee
          rw [rws_cons] at hu
          rcases List.mem_cons.1 hu with rfl | hu
          · have := (ownN_lt (h.rows _ (List.mem_cons_self ..)).1 ee).2; omega
          · rcases List.mem_cons.1 hu with rfl | hu
            · simp [Value.ownBlock] at ee
            · have := (rws_lt h (by rw [rws_cons]; simp [hu]) ee).2; omega
    refine ⟨⟨hva.2.1, Nat.lt_of_lt_of_le hva.2.2 hg.size, fun ee => ?_⟩, hg.block b hva.2.2 (fun ee => hva.1 ee.symm)⟩
    rcases hf b (by rw [ee]; rfl) with hh | hh
    · exact hva.1 hh
    · have := hva.2.2; omega)
  have hown := OwnN.setAt how (i := n0) (by rw [List.length_append, hn0]; simp) hnd'
  rw [show (e.ah ++ [Sx.empty]).set n0 nd = e.ah ++ [nd] by rw [hn0, List.set_append_right _ _ (Nat.le_refl _), Nat.sub_self]; rfl] at hown
  have hW : ∀ b, b ≠ g → ((W.setCell ⟨g, L.length * 4 + 2, none⟩ (.slice none 0 0)).setCell ⟨g, L.length * 4 + 3, none⟩ (.bool false)).heap[b]? = (setAt7 w' g2 (n0 * 7) (.int .i64 k) (.slice ka ki kj) (.int .i64 mn) (.int .i64 mx) (.bool lz) (.int .i64 gg) (.slice kb ks kt)).heap[b]? := fun b hb => by
    rw [Below.heap_setCell _ _ _ _ hb, Below.heap_setCell _ _ _ _ hb, Below.heap_setCell _ _ _ _ hb]
  have hWs : ((W.setCell ⟨g, L.length * 4 + 2, none⟩ (.slice none 0 0)).setCell ⟨g, L.length * 4 + 3, none⟩ (.bool false)).heap.size = w'.heap.size := by
    have h1 : ((W.setCell ⟨g, L.length * 4 + 2, none⟩ (.slice none 0 0)).setCell ⟨g, L.length * 4 + 3, none⟩ (.bool false)).heap.size = W.heap.size := by simp [World.setCell]
    have h2 : W.heap.size = (setAt7 w' g2 (n0 * 7) (.int .i64 k) (.slice ka ki kj) (.int .i64 mn) (.int .i64 mx) (.bool lz) (.int .i64 gg) (.slice kb ks kt)).heap.size := by simp [W, World.setCell]
    rw [h1, h2, setAt7_size]
  have hkp : Kp (fun b => (Value.slice (some ⟨g, 0, none⟩) (L.length + 1) cap).ownBlock = some b ∨ (Value.slice p0 n0 cap0).ownBlock = some b) w ((W.setCell ⟨g, L.length * 4 + 2, none⟩ (.slice none 0 0)).setCell ⟨g, L.length * 4 + 3, none⟩ (.bool false)) := by
    have k1 : Kp (fun b => (Value.slice (some ⟨g, 0, none⟩) (L.length + 1) cap).ownBlock = some b ∨ (Value.slice p0 n0 cap0).ownBlock = some b) w w' := hkB.grown hg (fun b hb => .inl (.inr hb))
    have k2 := k1.setAt7 (g := g2) (by rcases hf g2 rfl with hh | hh; exact .inl (.inr hh); exact .inr (Nat.le_trans hsz hh)) (n0 * 7) (.int .i64 k) (.slice ka ki kj) (.int .i64 mn) (.int .i64 mx) (.bool lz) (.int .i64 gg) (.slice kb ks kt)
    exact ((k2.set ⟨g, L.length * 4 + 1, none⟩ (.inl (.inl rfl)) _).set ⟨g, L.length * 4 + 2, none⟩ (.inl (.inl rfl)) _).set ⟨g, L.length * 4 + 3, none⟩ (.inl (.inl rfl)) _
  refine ⟨hc2, hc3, fun o => s1.frozenAt o, ?_, hkp⟩
  refine h.upd (x' := ⟨.slice (some ⟨g2, 0, none⟩) (n0 + 1) cap2, .slice none 0 0, ⟨e.g, e.ah ++ [nd], [], false⟩⟩) (hkp.mono (fun b _ hb => hb.elim .inl (fun hb => .inr (.inl hb)))) s3 ?_ (OwnN.nil' _ _ _ _) (fun b hb => ?_) (fun b hb => by simp [Value.ownBlock] at hb) (fun b hb ee => by simp [Value.ownBlock] at ee) hpw
  · refine OwnN.monoS hown (fun b hb => hW b (fun ee => hgg (by rw [← ee]; simpa [Value.ownBlock] using hb.symm))) (by rw [hWs, setAt7_size]; exact Nat.le_refl _) (fun b hb hlt hnb => ?_)
    have hbg : b ≠ g := fun ee => hb.2.2.1 (by rw [ee]; rfl)
    refine ⟨⟨hb.1, hb.2.1, hb.2.2.1, fun u hu => ?_⟩, hW b hbg⟩
    rw [rws_cons] at hu
    have hb4 := hb.2.2.2
    rw [rws_cons] at hb4
    rcases List.mem_cons.1 hu with rfl | hu
    · exact hnb
    · rcases List.mem_cons.1 hu with rfl | hu
      · exact hb4 _ (by simp)
      · exact hb4 u (by simp [hu])
  · rcases hf b hb with hh | hh
    · exact .inl hh
    · exact .inr (Nat.le_trans hsz hh)
end Go.Proofs.YtdoapojmenojoaaGreatDoor
end

section
/- A sequence ends: the walk. -/
set_option linter.unusedVariables false
namespace Go.Proofs.YtdoapojmenojoaaGreatDoor
open Go.RowKit
open Sx (Nd)

theorem seq_at {base : Nat} {p : Nat → Prop} {v va vl : Value} {e : Sx.E} {L : List Ent} {w : World} (h : SK base w p v (⟨va, vl, e⟩ :: L)) (hla : e.la.length ≤ 100000) (hfl : (Sx.flat6 e.la).length ≤ 100000) (hne : ∀ n ∈ e.la, n.k = 6 → n.kids ≠ []) :
    ∃ q cap, vl = .slice q e.la.length cap ∧ ∀ wc, Below w.heap.size w wc → Calls Tryz.prog 128 #[.slice q e.la.length cap] wc fun x w' => ∃ k ka ki kj mn mx lz gg kb ks kt, x = .returned (ndv k (.slice ka ki kj) mn mx lz gg (.slice kb ks kt)) ∧
      NodeS (fun b => (FreT base p v va e L b ∧ b < w.heap.size) ∨ (w.heap.size ≤ b ∧ b < w'.heap.size)) w' k (.slice ka ki kj) mn mx lz gg (.slice kb ks kt) (Sx.sequence e.la) ∧ Below wc.heap.size wc w' := by
  obtain ⟨q, cap, rfl, hk⟩ := turn_kids h
  refine ⟨q, cap, rfl, fun wc hb => ?_⟩
  refine (sequence_any e.la q cap (fun b => FreT base p v va e L b ∧ b < w.heap.size) wc (hk.mono (fun b hb' => ⟨hb', hb.block b hb'.2⟩)) (fun b hb' => Nat.lt_of_lt_of_le hb'.2 hb.size) hla hfl hne).mono ?_
  rintro x w' ⟨u, rfl, ⟨k, vc, mn, mx, lz, gg, vl', rfl, hn⟩, hw⟩
  obtain ⟨ka, ki, kj, kb, ks, kt, rfl, rfl⟩ := nodeS_shape hn
  refine ⟨k, ka, ki, kj, mn, mx, lz, gg, kb, ks, kt, rfl, hn.mono (fun b hb' => ⟨?_, rfl⟩), hw⟩
  rcases hb' with hb' | hb'
  · exact .inl hb'
  · exact .inr ⟨Nat.le_trans hb.size hb'.1, hb'.2⟩
theorem zero_kids {S : Nat → Prop} {w : World} {b : Nat} (hb : S b) (h : Seven w b 0 0 (.slice none 0 0) 0 0 false 0 (.slice none 0 0)) : KidsS S w (some ⟨b, 0, none⟩) 0 [Sx.empty] := by
  rw [KidsS]
  exact ⟨⟨b, 0, 0, _, 0, 0, false, 0, _, rfl, hb, by simpa using h, nodeS_mk (kids := []) (by decide) (by simp) (by rw [KidsS]; trivial)⟩, by rw [KidsS]; trivial⟩
set_option maxRecDepth 20000 in
set_option maxHeartbeats 8000000 in
theorem turn_any (base : Nat) (p : Nat → Prop) (v : Value) (g cap : Nat) (x : Ent) (L : List Ent) (w : World) (hv : v = .slice (some ⟨g, 0, none⟩) (L.length + 1) cap) (h : SK base w p v (x :: L)) (hn : L.length ≤ 100000) (hah : x.e.ah.length ≤ 100000) (hbw : base ≤ w.heap.size) (hpw : ∀ b, p b → b < w.heap.size)
    (hla : x.e.la.length ≤ 100000) (hfl : (Sx.flat6 x.e.la).length ≤ 100000) (hnk : ∀ n ∈ x.e.la, n.k = 6 → n.kids ≠ []) :
    Calls Tryz.prog 102 #[.pointer (some ⟨g, L.length * 4, none⟩)] w fun e w' => e = .returned (.tuple #[]) ∧ ∃ va', SK base w' p v (⟨va', .slice none 0 0, x.e.turn⟩ :: L) ∧ Kp (fun b => v.ownBlock = some b ∨ x.va.ownBlock = some b) w w' := by
  obtain ⟨va, vl, e⟩ := x
  obtain ⟨g', cap', hv', hbg, hgl, hgp, hgc, c0, c1, c2, c3, cf⟩ := h.inner
  rw [hv] at hv'
  simp only [Value.slice.injEq, Option.some.injEq, Addr.mk.injEq, and_true, true_and] at hv'
  obtain ⟨rfl, rfl⟩ := hv'
  have hO := (h.rows _ (List.mem_cons_self ..)).1
  simp only at hO c0 c1 c2 c3 hah hla hfl hnk
  obtain ⟨q, capq, rfl, hseq⟩ := seq_at h hla hfl hnk
  obtain ⟨p0, cap0, rfl⟩ := own_slice hO
  obtain ⟨n0, hn0⟩ : ∃ n0, n0 = e.ah.length := ⟨_, rfl⟩
  have HN0 := Lib.hid hn0
  rw [← hn0] at h hO c1 hseq ⊢
  have hne : (Value.slice p0 n0 cap0).ownBlock ≠ some g := fun ee => (List.pairwise_cons.1 h.apart).1 (.slice p0 n0 cap0) (by rw [rws_cons]; simp) g (by rw [hv]; rfl) ee
  have HSK := Lib.hid h
  have HV := Lib.hid hv
  have hlL : n0 ≤ 100000 := by rw [hn0]; exact hah
  have HNE := Lib.hid hne
  have HSQ := Lib.hid hseq
  have HO := Lib.hid (show ∀ wc, Below w.heap.size w wc → OwnN (FreT base p v (.slice p0 n0 cap0) e L) wc base 29 (.slice p0 n0 cap0) e.ah from fun wc hb => OwnN.monoS hO (fun gg hg => hb.block gg (ownN_lt hO hg).2) hb.size (fun b h1 h2 _ => ⟨freT_of h1, hb.block b h2⟩))
  have HFW := Lib.hid (show FreT base p v (.slice p0 n0 cap0) e L w.heap.size from by
    refine ⟨hbw, fun hpb => by have := hpw _ hpb; omega, fun ee => by have := (h.row.lt _ ee).2; omega, fun u hu ee => ?_⟩
    rw [rws_cons] at hu
    rcases List.mem_cons.1 hu with rfl | hu
    · have := (ownN_lt hO ee).2; omega
    · rcases List.mem_cons.1 hu with rfl | hu
      · simp [Value.ownBlock] at ee
      · have := (rws_lt h (by rw [rws_cons]; simp [hu]) ee).2; omega)
  have HVN := Lib.hid (show (Value.slice p0 n0 cap0).ownBlock ≠ some w.heap.size from fun ee => by have := (ownN_lt hO ee).2; omega)
  obtain ⟨nq, hnq⟩ : ∃ nq, nq = e.la.length := ⟨_, rfl⟩
  have HNQ := Lib.hid hnq
  rw [← hnq] at HSQ c2
  clear h hv hn0 hah hne hseq hO hla hfl hnk hnq
  have hgn : ¬ g = w.heap.size := Nat.ne_of_lt hgl
  go_enter Tryz.func102, Tryz.ntmps102
  go_wp2_with fail
  go_region_law (first | (refine step_nodeF (by rfl) _ _ 27 (by rfl) base 29 Tryz.underlying27 Tryz.infoSN (FreT base p v (.slice p0 n0 cap0) e L) w1 (.slice p0 n0 cap0) e.ah 0 none 0 0 0 0 false 0 none 0 0 Sx.empty (by rfl) (by exact HOW.out) (by rfl) (by exact nodeS_mk (kids := []) (by decide) (by simp) (by rw [KidsS]; trivial)) (by have := HN0.out; omega) (by exact Nat.le_trans hbw BW.out.size) ?_; intro v' w' hown' hg' hf'; obtain ⟨g2, cap2, rfl, hb2, hl2, fz2, hc2⟩ := own_shape hown' (n := n0) (by rw [List.length_append, HN0.out]; rfl); have hgg : g ≠ g2 := fun ee => (by rcases hf' g2 rfl with hh | hh <;> first | exact HNE.out (by rw [hh, ee]) | (have h1 := BW.out.size; omega)); have hkg := (hg'.block g (Nat.lt_of_lt_of_le hgl BW.out.size) (fun ee => HNE.out ee.symm)); have c9 := (cell_of_block (a := ⟨g, L.length * 4 + 1, none⟩) hkg).trans c1w; have cf9 : w'.frozen? ⟨g, L.length * 4 + 1, none⟩ = false := (frozen_of_block (a := ⟨g, L.length * 4 + 1, none⟩) hkg).trans cfw; have HAW := Lib.hid hown'; have HGB := Lib.hid hg'; have HFR := Lib.hid hf'; obtain ⟨u0, y0⟩ := hc2 (n0 * 7) (by omega); obtain ⟨u1, y1⟩ := hc2 (n0 * 7 + 1) (by omega); obtain ⟨u2, y2⟩ := hc2 (n0 * 7 + 2) (by omega); obtain ⟨u3, y3⟩ := hc2 (n0 * 7 + 3) (by omega); obtain ⟨u4, y4⟩ := hc2 (n0 * 7 + 4) (by omega); obtain ⟨u5, y5⟩ := hc2 (n0 * 7 + 5) (by omega); obtain ⟨u6, y6⟩ := hc2 (n0 * 7 + 6) (by omega); have hi9 : (n0 : Int) < (n0 : Int) + 1 := (by omega); clear hown' hg' hf' hc2 hkg) | (refine step_nodesF (by rfl) _ _ 27 (by rfl) base 29 Tryz.underlying27 Tryz.infoSN (FreT base p v (.slice p0 n0 cap0) e L) w1 (.slice p0 n0 cap0) e.ah [Sx.empty] w.heap.size 0 1 1 rfl (by rfl) (by exact HOW.out) (by rfl) (by exact zero_kids ⟨HFW.out, hz1', HVN.out⟩ hz7) (by have := HN0.out; simp; omega) (by exact Nat.le_trans hbw BW.out.size) ?_; intro v' w' hown' hg' hf'; obtain ⟨g2, cap2, rfl, hb2, hl2, fz2, hc2⟩ := own_shape hown' (n := n0) (by rw [List.length_append, HN0.out]; rfl); have hgg : g ≠ g2 := fun ee => (by rcases hf' g2 rfl with hh | hh <;> first | exact HNE.out (by rw [hh, ee]) | (have h1 := BW.out.size; omega)); have hkg := (hg'.block g (Nat.lt_of_lt_of_le hgl BW.out.size) (fun ee => HNE.out ee.symm)); have c9 := (cell_of_block (a := ⟨g, L.length * 4 + 1, none⟩) hkg).trans c1w; have cf9 : w'.frozen? ⟨g, L.length * 4 + 1, none⟩ = false := (frozen_of_block (a := ⟨g, L.length * 4 + 1, none⟩) hkg).trans cfw; have HAW := Lib.hid hown'; have HGB := Lib.hid hg'; have HFR := Lib.hid hf'; obtain ⟨u0, y0⟩ := hc2 (n0 * 7) (by omega); obtain ⟨u1, y1⟩ := hc2 (n0 * 7 + 1) (by omega); obtain ⟨u2, y2⟩ := hc2 (n0 * 7 + 2) (by omega); obtain ⟨u3, y3⟩ := hc2 (n0 * 7 + 3) (by omega); obtain ⟨u4, y4⟩ := hc2 (n0 * 7 + 4) (by omega); obtain ⟨u5, y5⟩ := hc2 (n0 * 7 + 5) (by omega); obtain ⟨u6, y6⟩ := hc2 (n0 * 7 + 6) (by omega); have hi9 : (n0 : Int) < (n0 : Int) + 1 := (by omega); clear hown' hg' hf' hc2 hkg) | (go_simp; go_at_call 128; refine (HSQ.out _ (by first | exact (Below.refl _ _).drew | exact bvia ((Below.refl _ _).drew) (below_new _ _))).mono ?_; rintro e1 w1 ⟨k, ka, ki, kj, mn, mx, lz, gg, kb, ks, kt, rfl, hnd, hw1⟩; (try (have hz7 := ((Seven.box w.drew 0 (.slice none 0 0) 0 0 false 0 (.slice none 0 0) 29).below hw1 (by simp)); have hz1' := Nat.lt_of_lt_of_le (show w.heap.size < (w.drew.alloc (.cells #[.int .i64 0, .slice none 0 0, .int .i64 0, .int .i64 0, .bool false, .int .i64 0, .slice none 0 0] 29)).heap.size by simp) hw1.size)); have hbw1 := (show Below w.heap.size w w1 from (by first | exact bvia ((Below.refl _ _).drew) hw1 | exact bvia (bvia ((Below.refl _ _).drew) (below_new _ _)) hw1)); have HND := Lib.hid hnd; have BW := Lib.hid hbw1; have HOW := Lib.hid (HO.out _ hbw1); have c1w := (hbw1.cell (p := ⟨g, L.length * 4 + 1, none⟩) hgl).trans c1; have hgB1 := Nat.lt_of_lt_of_le hgl hbw1.size; have hgn1 : ¬ g = w1.heap.size := Nat.ne_of_lt hgB1; have cfw := (hbw1.frozen (p := ⟨g, L.length * 4 + 1, none⟩) hgl).trans (cf (L.length * 4 + 1)); clear hnd hbw1 hw1; unfold ndv))
  all_goals
    have HE := Lib.hid (turn_end HV.out HSK.out HN0.out hpw HND.out (fun b hb => BW.out.block b hb) BW.out.size (below_kp _ BW.out) HAW.out HGB.out HFR.out HNE.out hgg hgl)
    first
      | with_reducible change Exit.then _ _ _ _ ((setAt7 w' g2 (n0 * 7) (.int .i64 k) (.slice ka ki kj) (.int .i64 mn) (.int .i64 mx) (.bool lz) (.int .i64 gg) (.slice kb ks kt)).setCell ⟨g, L.length * 4 + 1, none⟩ (.slice (some ⟨g2, 0, none⟩) (n0 + 1) cap2))
      | (with_reducible change Exit.then _ _ _ _ (setAt7 (w'.setCell ⟨g, L.length * 4 + 1, none⟩ (.slice (some ⟨g2, 0, none⟩) (n0 + 1) cap2)) g2 (n0 * 7) (.int .i64 k) (.slice ka ki kj) (.int .i64 mn) (.int .i64 mx) (.bool lz) (.int .i64 gg) (.slice kb ks kt)); rw [setAt7_comm _ g g2 _ _ hgg])
    obtain ⟨d2, d3, df, hsk, hkk⟩ := HE.out
    have HF := Lib.hid hsk
    have HKK := Lib.hid hkk
    clear hsk hkk HE y0 y1 y2 y3 y4 y5 y6 c9 cf9 hi9 c1w cfw HAW HGB HFR HND BW HOW cf c0 c1 c2 c3
    generalize ((setAt7 w' g2 (n0 * 7) (.int .i64 k) (.slice ka ki kj) (.int .i64 mn) (.int .i64 mx) (.bool lz) (.int .i64 gg) (.slice kb ks kt)).setCell ⟨g, L.length * 4 + 1, none⟩ (.slice (some ⟨g2, 0, none⟩) (n0 + 1) cap2)) = W at d2 d3 df HF HKK ⊢
    go_wp2_with fail
    go_end0
    exact ⟨rfl, _, HF.out, HKK.out⟩
end Go.Proofs.YtdoapojmenojoaaGreatDoor
end
