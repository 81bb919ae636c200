import Derived.Test.YtdoapojmenojoaaGreatDoorJPAdd
set_option linter.unusedSimpArgs false
set_option linter.unusedVariables false
section
/- A whole expression, and what is left of the stack. -/
set_option linter.unusedVariables false
namespace Go.Proofs.YtdoapojmenojoaaGreatDoor
open Go.RowKit
open Sx (Nd)

/- the stack, its inner one let go -/
structure SKp (base : Nat) (w : World) (p : Nat → Prop) (v : Value) (L : List Ent) (gn : Int) : Prop where
  row : ∃ x : Ent, x.e.g = gn ∧ w.ownsRow base 73 4 v (L.length + 1) (ecl L ++ ecells x)
  rows : ∀ x ∈ L, OwnN (Fre base p v L) w base 29 x.va x.e.ah ∧ OwnN (Fre base p v L) w base 29 x.vl x.e.la
  apart : (v :: rws L).Pairwise Ap
  notp : ∀ u ∈ v :: rws L, ∀ g, u.ownBlock = some g → ¬ p g
theorem SKp.pop {base : Nat} {w : World} {p : Nat → Prop} {g cap : Nat} {L : List Ent} {gn : Int} (h : SKp base w p (.slice (some ⟨g, 0, none⟩) (L.length + 1) cap) L gn) : SK base w p (.slice (some ⟨g, 0, none⟩) L.length cap) L := by
  obtain ⟨x, _, hr⟩ := h.row
  refine ⟨ownsRow_pop (ecl_len L) hr, h.rows, ?_, ?_⟩
  · have := h.apart
    rw [List.pairwise_cons] at this ⊢
    exact ⟨fun u hu gg hg => this.1 u hu gg (by simpa [Value.ownBlock] using hg), this.2⟩
  · intro u hu gg hg
    rcases List.mem_cons.1 hu with rfl | hu
    · exact h.notp _ (List.mem_cons_self ..) gg (by simpa [Value.ownBlock] using hg)
    · exact h.notp u (List.mem_cons_of_mem _ hu) gg hg
/- a new block that is no node's -/
theorem SK.excl {base : Nat} {w : World} {p : Nat → Prop} {v : Value} {L : List Ent} (h : SK base w p v L) (o : Obj) : SK base (w.alloc o) (fun b => p b ∨ b = w.heap.size) v L := by
  have hlt : ∀ u ∈ v :: rws L, ∀ g, u.ownBlock = some g → g < w.heap.size := fun u hu g hg => by
    rcases List.mem_cons.1 hu with rfl | hu
    · exact (h.row.lt g hg).2
    · exact (rws_lt h hu hg).2
  have hk : ∀ b, b < w.heap.size → (w.alloc o).heap[b]? = w.heap[b]? := fun b hb => Below.heap_alloc _ _ _ hb
  refine ⟨World.ownsRow.alloc h.row o, fun x hx => ?_, h.apart, fun u hu g hg => ?_⟩
  · have hr := h.rows x hx
    have hm := mem_rws hx
    have hS : ∀ b, Fre base p v L b → b < w.heap.size → Fre base (fun b => p b ∨ b = w.heap.size) v L b ∧ (w.alloc o).heap[b]? = w.heap[b]? := fun b hb hl => ⟨⟨hb.1, fun e => e.elim hb.2.1 (fun e => by omega), hb.2.2⟩, hk b hl⟩
    exact ⟨hr.1.monoS (fun g hg => hk g (ownN_lt hr.1 hg).2) (by simp) (fun b h1 h2 _ => hS b h1 h2), hr.2.monoS (fun g hg => hk g (ownN_lt hr.2 hg).2) (by simp) (fun b h1 h2 _ => hS b h1 h2)⟩
  · intro e
    rcases e with e | e
    · exact h.notp u hu g hg e
    · have := hlt u hu g hg; omega
theorem fre_tail {base : Nat} {p p' : Nat → Prop} {v : Value} {x : Ent} {L : List Ent} {b : Nat} (h : Fre base p' v (x :: L) b) (hp : ∀ b, p b → p' b) : Fre base p v L b := by
  obtain ⟨h1, h2, h3, h4⟩ := h
  exact ⟨h1, fun e => h2 (hp b e), h3, fun u hu => h4 u (by rw [rws_cons]; simp [hu])⟩
theorem SK.toP {base B : Nat} {w w' : World} {p p' : Nat → Prop} {v : Value} {x : Ent} {L : List Ent} (h : SK base w p' v (x :: L)) (hp : ∀ b, p b → p' b) (hB : p' B) (k : Kp (fun b => b = B) w w') : SKp base w' p v L x.e.g := by
  have hn := h.notp
  rw [rws_cons] at hn
  have hne : ∀ u ∈ v :: x.va :: x.vl :: rws L, ∀ g, u.ownBlock = some g → g ≠ B := fun u hu g hg e => hn u hu g hg (by rw [e]; exact hB)
  refine ⟨⟨x, rfl, ?_⟩, fun y hy => ?_, ?_, fun u hu g hg e => ?_⟩
  · have hr := h.row
    rw [ecl_cons] at hr
    refine ⟨hr.1, ?_⟩
    rcases hr.2 with h0 | ⟨g, cap, cur, e1, hb, hh, hrest⟩
    · exact .inl h0
    · exact .inr ⟨g, cap, cur, e1, hb, (k.block g (Array.getElem?_eq_some_iff.1 hh).1 (hne v (by simp) g (by rw [e1]; rfl))).trans hh, hrest⟩
  · have hr := h.rows y (List.mem_cons_of_mem _ hy)
    have hm := mem_rws hy
    have hS : ∀ b, Fre base p' v (x :: L) b → b < w.heap.size → Fre base p v L b ∧ w'.heap[b]? = w.heap[b]? := fun b hb hl => ⟨fre_tail hb hp, k.block b hl (fun e => hb.2.1 (by rw [e]; exact hB))⟩
    exact ⟨hr.1.monoS (fun g hg => k.block g (ownN_lt hr.1 hg).2 (hne _ (by simp [hm.1]) g hg)) k.size (fun b h1 h2 _ => hS b h1 h2), hr.2.monoS (fun g hg => k.block g (ownN_lt hr.2 hg).2 (hne _ (by simp [hm.2]) g hg)) k.size (fun b h1 h2 _ => hS b h1 h2)⟩
  · have := h.apart
    rw [rws_cons, List.pairwise_cons, List.pairwise_cons, List.pairwise_cons] at this
    rw [List.pairwise_cons]
    exact ⟨fun u hu => this.1 u (by simp [hu]), this.2.2.2⟩
  · rcases List.mem_cons.1 hu with rfl | hu
    · exact hn _ (by simp) g hg (hp g e)
    · exact hn u (by simp [hu]) g hg (hp g e)
theorem thr_kids {base : Nat} {w : World} {p : Nat → Prop} {v : Value} {x : Ent} {L : List Ent} (h : SK base w p v (x :: L)) : ∃ q cap, x.va = .slice q x.e.ah.length cap ∧ KidsS (fun b => Fre base p v L b ∧ b < w.heap.size) w q 0 x.e.ah := by
  have hr := (h.rows _ (List.mem_cons_self ..)).1
  have hap := h.apart
  rw [rws_cons, List.pairwise_cons, List.pairwise_cons] at hap
  have hn := h.notp
  rw [rws_cons] at hn
  exact own_kids2 hr (fun b hb hlt _ => ⟨fre_tail hb (fun _ e => e), hlt⟩) (fun g hg => ⟨⟨(ownN_lt hr hg).1, hn x.va (by simp) g hg, fun e => hap.1 x.va (by simp) g e hg, fun u hu e => hap.2.1 u (by simp [hu]) g hg e⟩, (ownN_lt hr hg).2⟩)
theorem new_free {base : Nat} {w : World} {p : Nat → Prop} {v : Value} {x : Ent} {L : List Ent} {b B : Nat} (h : SK base w (fun b => p b ∨ b = B) v (x :: L)) (hpw : ∀ b, p b → b < B) (hB : B ≤ w.heap.size) (hb : w.heap.size ≤ b) : Fre base p v L b := by
  have hr := h.row
  obtain ⟨g, cap, hv, hbg, hgl, _⟩ := h.inner
  refine ⟨by omega, fun e => by have := hpw b e; omega, fun e => by rw [hv] at e; simp [Value.ownBlock] at e; omega, fun u hu e => ?_⟩
  have := (rws_lt h (by rw [rws_cons]; simp [hu]) e).2
  omega
def chOf (l : List Nd) : Nd := match l with | [x] => x | l => .mk 7 [] 0 0 false 0 (Sx.flat7 l)
theorem chOf_many {l : List Nd} (h : 2 ≤ l.length) : chOf l = .mk 7 [] 0 0 false 0 (Sx.flat7 l) := by
  match l, h with
  | _ :: _ :: _, _ => rfl
theorem Kp.set7X {X : Nat → Prop} {a w : World} (h : Kp X a w) {B : Nat} (hB : X B) (x0 x1 x2 x3 x4 x5 x6 : Value) : Kp X a (Go.Proofs.YtdoapojmenojoaaGreatDoor.set7 w B x0 x1 x2 x3 x4 x5 x6) :=
  ((((((h.set ⟨B, 0, none⟩ (.inl hB) x0).set ⟨B, 1, none⟩ (.inl hB) x1).set ⟨B, 2, none⟩ (.inl hB) x2).set ⟨B, 3, none⟩ (.inl hB) x3).set ⟨B, 4, none⟩ (.inl hB) x4).set ⟨B, 5, none⟩ (.inl hB) x5).set ⟨B, 6, none⟩ (.inl hB) x6
def ThrPost (base : Nat) (p : Nat → Prop) (v va : Value) (L : List Ent) (gn : Int) (n : Nd) (w : World) (e : Ending) (w' : World) : Prop :=
  ∃ u, e = .returned u ∧ NodeVS (fun b => Fre base p v L b ∧ b < w'.heap.size) w' u n ∧ SKp base w' p v L gn ∧ Kp (fun b => v.ownBlock = some b ∨ va.ownBlock = some b) w w'
set_option maxRecDepth 20000 in
set_option maxHeartbeats 8000000 in
theorem through_any (base : Nat) (p : Nat → Prop) (v : Value) (g cap : Nat) (x : Ent) (L : List Ent) (w : World) (hv : v = .slice (some ⟨g, 0, none⟩) (L.length + 1) cap) (h : SK base w p v (x :: L)) (hn : L.length ≤ 100000) (hah : x.e.ah.length ≤ 99999) (hbw : base ≤ w.heap.size) (hpw : ∀ b, p b → b < w.heap.size)
    (hla : x.e.la.length ≤ 100000) (hfl : (Sx.flat6 x.e.la).length ≤ 100000) (hnk : ∀ n ∈ x.e.la, n.k = 6 → n.kids ≠ []) (hf7 : (Sx.flat7 (x.e.ah ++ [Sx.sequence x.e.la])).length ≤ 100000) (hn7 : ∀ n ∈ x.e.ah ++ [Sx.sequence x.e.la], n.k = 7 → n.kids ≠ []) :
    Calls Tryz.prog 73 #[.pointer (some ⟨g, L.length * 4, none⟩)] w (ThrPost base p v x.va L x.e.g x.e.thr w) := by
  have hvl : ∀ b, v.ownBlock = some b → b < w.heap.size := fun b hb => (h.row.lt b hb).2
  have hal : ∀ b, x.va.ownBlock = some b → b < w.heap.size := fun b hb => (ownN_lt (h.rows _ (List.mem_cons_self ..)).1 hb).2
  have HE := Lib.hid (h.excl (.cells #[.int .i64 0, .slice none 0 0, .int .i64 0, .int .i64 0, .bool false, .int .i64 0, .slice none 0 0] 29))
  have HT := Lib.hid (fun h' => turn_any base (fun b => p b ∨ b = w.heap.size) v g cap x L (w.alloc (.cells #[.int .i64 0, .slice none 0 0, .int .i64 0, .int .i64 0, .bool false, .int .i64 0, .slice none 0 0] 29)) hv h' hn (by omega) (by simp; omega) (fun b hb => by rcases hb with hb | hb; have := hpw b hb; simp; omega; simp; omega) hla hfl hnk)
  have HPW := Lib.hid hpw
  have HVL := Lib.hid hvl
  have HAL := Lib.hid hal
  have HV := Lib.hid hv
  clear h hv hpw hvl hal hla hfl hnk
  go_enter Tryz.func73, Tryz.ntmps73
  go_wp2_with fail
  refine (HT.out HE.out).mono ?_
  rintro e w1 ⟨rfl, va', hsk, hk⟩
  have S1 := (seven0_new w).kp hk (fun hb => by rcases hb with hb | hb; have := HVL.out _ hb; omega; have := HAL.out _ hb; omega)
  have HKW := Lib.hid (((Kp.refl (fun b => v.ownBlock = some b ∨ x.va.ownBlock = some b) w).alloc (.cells #[.int .i64 0, .slice none 0 0, .int .i64 0, .int .i64 0, .bool false, .int .i64 0, .slice none 0 0] 29)).trans hk)
  obtain ⟨q1, cap1, hva1, hk1⟩ := thr_kids hsk
  simp only at hva1 hk1
  subst hva1
  obtain ⟨g', cap', hv', hbg, hgl, hgp, hgc, c0, c1, c2, c3, cf⟩ := hsk.inner
  have hv := HV.out
  rw [hv] at hv'
  simp only [Value.slice.injEq, Option.some.injEq, Addr.mk.injEq, and_true, true_and] at hv'
  obtain ⟨rfl, rfl⟩ := hv'
  have hsz1 := hk.size
  simp only [World.size_alloc] at hsz1
  have HSK := Lib.hid hsk
  have HK1 := Lib.hid hk1
  have HS1 := Lib.hid S1
  obtain ⟨l, hl⟩ : ∃ l, l = x.e.turn.ah := ⟨_, rfl⟩
  have hl2 : l = x.e.ah ++ [Sx.sequence x.e.la] := hl
  have HTH := Lib.hid (show x.e.thr = chOf l by rw [hl2]; rfl)
  rw [← hl2] at hf7 hn7
  rw [← hl] at HK1
  simp only at c1
  rw [← hl] at c1
  have hll : l.length ≤ 100000 := by rw [hl2]; simp; omega
  have hl1 : 1 ≤ l.length := by rw [hl2]; simp
  have HN7 := Lib.hid hn7
  clear hsk hk hk1 S1 hv c0 c2 c3 hn7 hl2 hl HT HE
  rcases (show (∃ n, l = [n]) ∨ 2 ≤ l.length from by
    cases l with
    | nil => simp at hl1
    | cons n t => cases t with
      | nil => exact .inl ⟨n, rfl⟩
      | cons m u => exact .inr (by simp)) with ⟨n, rfl⟩ | h2
  · obtain ⟨y0, y1, y2, y3, y4, y5, y6, yf⟩ := HS1.out.cells
    obtain ⟨b, o, k, vc, mn, mx, lz, gg, vl, rfl, hb, f7, hxn⟩ := kidsS_get HK1.out (m := 0) (x := n) rfl
    obtain ⟨ka, ki, kj, kb, ks, kt, rfl, rfl⟩ := nodeS_shape hxn
    simp only [Nat.zero_mul, Nat.add_zero] at f7
    obtain ⟨f0, f1, f2, f3, f4, f5, f6⟩ := f7
    have HXN := Lib.hid hxn
    have hone : (0 : Int) < ((1 : Nat) : Int) := by decide
    simp only [List.length_cons, List.length_nil] at c1
    clear hxn
    have h7 := set7_seven w1 w.heap.size k mn mx gg lz (.slice ka ki kj) (.slice kb ks kt) y0 y1 y2 y3 y4 y5 y6
    have HN := Lib.hid (show NodeVS (fun b => Fre base p v L b ∧ b < (set7 w1 w.heap.size (.int .i64 k) (.slice ka ki kj) (.int .i64 mn) (.int .i64 mx) (.bool lz) (.int .i64 gg) (.slice kb ks kt)).heap.size) (set7 w1 w.heap.size (.int .i64 k) (.slice ka ki kj) (.int .i64 mn) (.int .i64 mx) (.bool lz) (.int .i64 gg) (.slice kb ks kt)) (ndv k (.slice ka ki kj) mn mx lz gg (.slice kb ks kt)) x.e.thr by
      rw [HTH.out]
      unfold chOf
      exact NodeVS.set7 HXN.out (fun b hb => ⟨⟨⟨hb.1.1, fun e => hb.1.2.1 (.inl e), hb.1.2.2⟩, by rw [set7_size]; exact hb.2⟩, fun e => hb.1.2.1 (.inr e)⟩) _ _ _ _ _ _ _)
    have HSP := Lib.hid (HSK.out.toP (p := p) (B := w.heap.size) (fun b hb => .inl hb) (.inr rfl) (show Kp (fun b => b = w.heap.size) w1 (set7 w1 w.heap.size (.int .i64 k) (.slice ka ki kj) (.int .i64 mn) (.int .i64 mx) (.bool lz) (.int .i64 gg) (.slice kb ks kt)) from Kp.set7X (X := fun b => b = w.heap.size) (Kp.refl _ _) rfl _ _ _ _ _ _ _))
    have HKP := Lib.hid (HKW.out.set7 (Nat.le_refl _) (.int .i64 k) (.slice ka ki kj) (.int .i64 mn) (.int .i64 mx) (.bool lz) (.int .i64 gg) (.slice kb ks kt))
    go_wp2_with fail
    change bodyPost _ _ _ _ _ (set7 w1 w.heap.size (.int .i64 k) (.slice ka ki kj) (.int .i64 mn) (.int .i64 mx) (.bool lz) (.int .i64 gg) (.slice kb ks kt))
    obtain ⟨z0, z1, z2, z3, z4, z5, z6⟩ := h7
    simp only [Nat.zero_add] at z0 z1 z2 z3 z4 z5 z6
    generalize (set7 w1 w.heap.size (.int .i64 k) (.slice ka ki kj) (.int .i64 mn) (.int .i64 mx) (.bool lz) (.int .i64 gg) (.slice kb ks kt)) = wf at *
    exact bodyPost_ret (v := ndv k (.slice ka ki kj) mn mx lz gg (.slice kb ks kt)) (by unfold ndv; simp [results, Tryz.results73, go_sem, *]) rfl ⟨_, rfl, HN.out, HSP.out, HKP.out⟩
  · have e1 : (((l.length : Nat) : Int) == 1) = false := by rw [beq_eq_false_iff_ne]; omega
    have HFA := Lib.hid (flat_any 7 l q1 cap1 (fun b => Fre base (fun b => p b ∨ b = w.heap.size) v L b ∧ b < w1.heap.size) w1 (.inr rfl) HK1.out (fun b hb => hb.2) hll (by rw [flatK7]; exact hf7) HN7.out)
    have HTM := Lib.hid (HTH.out.trans (chOf_many h2))
    go_wp2_with (go_at_call 112; refine HFA.out.mono ?_; rintro e w2 ⟨v9, rfl, hown, hw2⟩; obtain ⟨p9, cap9, hv9, _, hk9⟩ := own_kids (S' := fun b => Fre base p v L b ∧ b < w2.heap.size ∧ b ≠ w.heap.size) hown (fun b h1 h2 => ⟨⟨h1.1.1, fun e => h1.1.2.1 (.inl e), h1.1.2.2⟩, h2, fun e => h1.1.2.1 (.inr e)⟩) (fun b h1 h2 => ⟨new_free HSK.out HPW.out (by omega) h1, h2, by omega⟩); subst hv9; have HK9 := Lib.hid hk9; have hsz2 := hw2.size; have HW2 := Lib.hid hw2; obtain ⟨y0, y1, y2, y3, y4, y5, y6, yf⟩ := (HS1.out.below hw2).cells; clear hown hw2 hk9)
    have h7 := set7_seven w2 w.heap.size 7 0 0 0 false (.slice none 0 0) (.slice p9 (flatK 7 l).length cap9) y0 y1 y2 y3 y4 y5 y6
    have HN := Lib.hid (show NodeVS (fun b => Fre base p v L b ∧ b < (set7 w2 w.heap.size (.int .i64 7) (.slice none 0 0) (.int .i64 0) (.int .i64 0) (.bool false) (.int .i64 0) (.slice p9 (flatK 7 l).length cap9)).heap.size) (set7 w2 w.heap.size (.int .i64 7) (.slice none 0 0) (.int .i64 0) (.int .i64 0) (.bool false) (.int .i64 0) (.slice p9 (flatK 7 l).length cap9)) (ndv 7 (.slice none 0 0) 0 0 false 0 (.slice p9 (flatK 7 l).length cap9)) x.e.thr by
      rw [HTM.out, ← flatK7]
      exact NodeVS.set7 (nodeS_mk (kids := flatK 7 l) (by decide) (by rw [flatK7]; omega) HK9.out) (fun b hb => ⟨⟨hb.1, by rw [set7_size]; exact hb.2.1⟩, hb.2.2⟩) _ _ _ _ _ _ _)
    have HSP := Lib.hid ((HSK.out.below HW2.out).toP (p := p) (B := w.heap.size) (fun b hb => .inl hb) (.inr rfl) (show Kp (fun b => b = w.heap.size) w2 (set7 w2 w.heap.size (.int .i64 7) (.slice none 0 0) (.int .i64 0) (.int .i64 0) (.bool false) (.int .i64 0) (.slice p9 (flatK 7 l).length cap9)) from Kp.set7X (X := fun b => b = w.heap.size) (Kp.refl _ _) rfl _ _ _ _ _ _ _))
    have HKP := Lib.hid ((HKW.out.below HW2.out).set7 (Nat.le_refl _) (.int .i64 7) (.slice none 0 0) (.int .i64 0) (.int .i64 0) (.bool false) (.int .i64 0) (.slice p9 (flatK 7 l).length cap9))
    change bodyPost _ _ _ _ _ (set7 w2 w.heap.size (.int .i64 7) (.slice none 0 0) (.int .i64 0) (.int .i64 0) (.bool false) (.int .i64 0) (.slice p9 (flatK 7 l).length cap9))
    obtain ⟨z0, z1, z2, z3, z4, z5, z6⟩ := h7
    simp only [Nat.zero_add] at z0 z1 z2 z3 z4 z5 z6
    generalize (set7 w2 w.heap.size (.int .i64 7) (.slice none 0 0) (.int .i64 0) (.int .i64 0) (.bool false) (.int .i64 0) (.slice p9 (flatK 7 l).length cap9)) = wf at *
    exact bodyPost_ret (v := ndv 7 (.slice none 0 0) 0 0 false 0 (.slice p9 (flatK 7 l).length cap9)) (by unfold ndv; simp [results, Tryz.results73, go_sem, *]) rfl ⟨_, rfl, HN.out, HSP.out, HKP.out⟩
end Go.Proofs.YtdoapojmenojoaaGreatDoor
end

section
/- The piece just ahead is repeated. -/
set_option linter.unusedVariables false
namespace Go.Proofs.YtdoapojmenojoaaGreatDoor
open Go.RowKit
open Sx (Nd)

theorem ecells_at (va vl : Value) (e : Sx.E) (L : List Ent) (la : List Nd) (b : Bool) : (ecl L ++ ecells ⟨va, vl, e⟩).set (L.length * 4 + 3) (.bool b) = ecl L ++ ecells ⟨va, vl, ⟨e.g, e.ah, la, b⟩⟩ := by
  rw [List.set_append_right _ _ (by rw [ecl_len]; omega), ecl_len, Nat.add_sub_cancel_left]
  rfl
/- the last of a row -/
theorem ownN_last {S : Nat → Prop} {w : World} {base : Nat} {ty : TypeId} {v : Value} {la : List Nd} {nd : Nd} (h : OwnN S w base ty v (la ++ [nd])) : ∃ g2 cap2 k ka ki kj mn mx lz gg kb ks kt, v = .slice (some ⟨g2, 0, none⟩) (la.length + 1) cap2 ∧ base ≤ g2 ∧ g2 < w.heap.size ∧ (∀ o, w.frozen? ⟨g2, o, none⟩ = false) ∧
    Seven w g2 (la.length * 7) k (.slice ka ki kj) mn mx lz gg (.slice kb ks kt) ∧ NodeS (fun b => S b ∧ b < w.heap.size ∧ v.ownBlock ≠ some b) w k (.slice ka ki kj) mn mx lz gg (.slice kb ks kt) nd := by
  obtain ⟨xs, ho, hn⟩ := h
  obtain ⟨k, vc, mn, mx, lz, gg, vl, x0, x1, x2, x3, x4, x5, x6, hh⟩ := hn la.length nd (by simp)
  obtain ⟨ka, ki, kj, kb, ks, kt, rfl, rfl⟩ := nodeS_shape hh
  rw [List.length_append, List.length_singleton] at ho
  rcases ho.2 with ⟨_, h0⟩ | ⟨g, cap, cur, rfl, hb, hhp, _⟩
  · omega
  · have hc : ∀ t, t < 7 → w.cell? ⟨g, la.length * 7 + t, none⟩ = xs[la.length * 7 + t]? := fun t ht => ho.cellAt _ (by omega)
    exact ⟨g, cap, k, ka, ki, kj, mn, mx, lz, gg, kb, ks, kt, rfl, hb, (Array.getElem?_eq_some_iff.1 hhp).1, fun o => ho.frozenAt o, ⟨(hc 0 (by omega)).trans x0, (hc 1 (by omega)).trans x1, (hc 2 (by omega)).trans x2, (hc 3 (by omega)).trans x3, (hc 4 (by omega)).trans x4, (hc 5 (by omega)).trans x5, (hc 6 (by omega)).trans x6⟩, hh⟩
theorem one_kid {S : Nat → Prop} {w : World} {b : Nat} {k mn mx gg : Int} {vc vl : Value} {lz : Bool} {n : Nd} (hb : S b) (h : Seven w b 0 k vc mn mx lz gg vl) (hn : NodeS S w k vc mn mx lz gg vl n) : KidsS S w (some ⟨b, 0, none⟩) 0 [n] := by
  rw [KidsS]
  exact ⟨⟨b, 0, k, _, mn, mx, lz, gg, _, rfl, hb, by simpa using h, hn⟩, by rw [KidsS]; trivial⟩
theorem nodeS_rep {S : Nat → Prop} {w : World} {mn mx : Int} {lz : Bool} {n : Nd} {q : Option Addr} {cap : Nat} (hm : 0 ≤ mn ∧ mn ≤ 20) (hx : -1 ≤ mx ∧ mx ≤ 20) (h : KidsS S w q 0 [n]) : NodeS S w 8 (.slice none 0 0) mn mx lz 0 (.slice q 1 cap) (Sx.rep mn mx lz n) := by
  unfold Sx.rep
  rw [NodeS]
  exact ⟨rfl, rfl, rfl, rfl, rfl, ⟨by decide, by decide⟩, ⟨by omega, by omega⟩, ⟨by omega, by omega⟩, ⟨by decide, by decide⟩, by simp, (fun k r hr => by simp at hr), by simp, ⟨none, 0, rfl, rows_nil _ _ _⟩, q, cap, rfl, h⟩
/- behind the store: what the stack is; B: where the old piece stands -/
theorem rep_end {base : Nat} {P : Nat → Prop} {p : Nat} {v va : Value} {g cap g2 cap2 B : Nat} {e : Sx.E} {la : List Nd} {L : List Ent} {w w1 : World} {mn mx : Int} {lz : Bool} {nd : Nd} {k mn0 mx0 gg : Int} {vc vl0 : Value} {lz0 : Bool}
    (hv : v = .slice (some ⟨g, 0, none⟩) (L.length + 1) cap) (h : SK base w P v (⟨va, .slice (some ⟨g2, 0, none⟩) (la.length + 1) cap2, e⟩ :: L)) (hla : e.la = la ++ [nd]) (hpw : ∀ b, P b → b < w.heap.size) (hPp : P p)
    (hs : Kp (Own1 p) w w1) (hB : w.heap.size ≤ B) (hB1 : B < w1.heap.size) (h7 : Seven w1 B 0 k vc mn0 mx0 lz0 gg vl0) (hnd : NodeS (fun b => Fre base P v (⟨va, .slice (some ⟨g2, 0, none⟩) (la.length + 1) cap2, e⟩ :: L) b ∧ b < w.heap.size ∧ b ≠ g2) w k vc mn0 mx0 lz0 gg vl0 nd)
    (hm : 0 ≤ mn ∧ mn ≤ 20) (hx : -1 ≤ mx ∧ mx ≤ 20) (hbw : base ≤ w.heap.size) :
    let W := setAt7 w1 g2 (la.length * 7) (.int .i64 8) (.slice none 0 0) (.int .i64 mn) (.int .i64 mx) (.bool lz) (.int .i64 0) (.slice (some ⟨B, 0, none⟩) 1 1)
    W.cell? ⟨g, L.length * 4 + 3, none⟩ = some (.bool e.at') ∧ W.frozen? ⟨g, L.length * 4 + 3, none⟩ = false ∧
    SK base (W.setCell ⟨g, L.length * 4 + 3, none⟩ (.bool false)) P v (⟨va, .slice (some ⟨g2, 0, none⟩) (la.length + 1) cap2, ⟨e.g, e.ah, la ++ [Sx.rep mn mx lz nd], false⟩⟩ :: L) ∧
    Kp (fun b => b = p ∨ v.ownBlock = some b ∨ g2 = b) w (W.setCell ⟨g, L.length * 4 + 3, none⟩ (.bool false)) := by
  intro W
  have h1 : SK base w1 P v (⟨va, .slice (some ⟨g2, 0, none⟩) (la.length + 1) cap2, e⟩ :: L) := h.kp hs (fun b _ hb => by unfold Own1 at hb; rw [hb]; exact hPp)
  have hap := h1.apart
  rw [rws_cons, List.pairwise_cons, List.pairwise_cons, List.pairwise_cons] at hap
  have hgg : g ≠ g2 := fun ee => hap.1 (.slice (some ⟨g2, 0, none⟩) (la.length + 1) cap2) (by simp) g (by rw [hv]; rfl) (by rw [ee]; rfl)
  have hr1 := (h1.rows _ (List.mem_cons_self ..)).2
  have hr0 := (h.rows _ (List.mem_cons_self ..)).2
  have hg2l := (ownN_lt hr0 (g := g2) rfl).2
  simp only at hr1
  rw [hla] at hr1
  have hFB : Fre base P v (⟨va, .slice (some ⟨g2, 0, none⟩) (la.length + 1) cap2, e⟩ :: L) B := by
    refine ⟨by omega, fun hpb => by have := hpw B hpb; omega, fun ee => by have := (h.row.lt B ee).2; omega, fun u hu ee => by have := (rws_lt h hu ee).2; omega⟩
  have hnd1 : NodeS (fun b => Fre base P v (⟨va, .slice (some ⟨g2, 0, none⟩) (la.length + 1) cap2, e⟩ :: L) b ∧ b < w1.heap.size ∧ b ≠ g2) w1 k vc mn0 mx0 lz0 gg vl0 nd := hnd.mono (fun b hb => ⟨⟨hb.1, Nat.lt_of_lt_of_le hb.2.1 hs.size, hb.2.2⟩, hs.block b hb.2.1 (fun hx => hb.1.2.1 (by unfold Own1 at hx; rw [hx]; exact hPp))⟩)
  have hrep := nodeS_rep (lz := lz) (cap := 1) hm hx (one_kid (S := fun b => Fre base P v (⟨va, .slice (some ⟨g2, 0, none⟩) (la.length + 1) cap2, e⟩ :: L) b ∧ b < w1.heap.size ∧ b ≠ g2) ⟨hFB, hB1, by omega⟩ h7 hnd1)
  have hown := OwnN.setAt hr1 (i := la.length) (by simp) hrep
  rw [show (la ++ [nd]).set la.length (Sx.rep mn mx lz nd) = la ++ [Sx.rep mn mx lz nd] by rw [List.set_append_right _ _ (Nat.le_refl _), Nat.sub_self]; rfl] at hown
  have hb7 : W.heap[g]? = w1.heap[g]? := setAt7_block _ _ _ _ _ _ _ _ _ _ g hgg
  have hrow7 : W.ownsRow base 73 4 v (L.length + 1) (ecl L ++ ecells ⟨va, .slice (some ⟨g2, 0, none⟩) (la.length + 1) cap2, e⟩) := by
    have hr := h1.row
    rw [ecl_cons] at hr
    refine ⟨hr.1, ?_⟩
    rcases hr.2 with ⟨_, h0⟩ | ⟨g', cap', cur, e1, hb, hh, hrest⟩
    · simp at h0
    · rw [hv] at e1
      simp only [Value.slice.injEq, Option.some.injEq, Addr.mk.injEq, and_true] at e1
      obtain ⟨⟨rfl, _⟩, _, rfl⟩ := e1
      exact .inr ⟨g, cap, cur, hv, hb, hb7.trans hh, hrest⟩
  subst hv
  have s3 := (hrow7.stored (L.length * 4 + 3) (.bool false)).1
  rw [ecells_at (la := la ++ [Sx.rep mn mx lz nd])] at s3
  have hc3 : W.cell? ⟨g, L.length * 4 + 3, none⟩ = some (.bool e.at') := by
    rw [hrow7.cellAt _ (by omega), List.getElem?_append_right (by rw [ecl_len]; omega), ecl_len, Nat.add_sub_cancel_left]
    rfl
  have hW : ∀ b, b ≠ g → (W.setCell ⟨g, L.length * 4 + 3, none⟩ (.bool false)).heap[b]? = W.heap[b]? := fun b hb => Below.heap_setCell _ _ _ _ hb
  have hWs : (W.setCell ⟨g, L.length * 4 + 3, none⟩ (.bool false)).heap.size = w1.heap.size := by
    have e1 : (W.setCell ⟨g, L.length * 4 + 3, none⟩ (.bool false)).heap.size = W.heap.size := by simp [World.setCell]
    rw [e1]; exact setAt7_size _ _ _ _ _ _ _ _ _ _
  have hkp1 : Kp (fun b => (Value.slice (some ⟨g, 0, none⟩) (L.length + 1) cap).ownBlock = some b ∨ (Value.slice (some ⟨g2, 0, none⟩) (la.length + 1) cap2).ownBlock = some b) w1 (W.setCell ⟨g, L.length * 4 + 3, none⟩ (.bool false)) :=
    ((Kp.refl _ w1).setAt7 (g := g2) (.inl (.inr rfl)) (la.length * 7) (.int .i64 8) (.slice none 0 0) (.int .i64 mn) (.int .i64 mx) (.bool lz) (.int .i64 0) (.slice (some ⟨B, 0, none⟩) 1 1)).set ⟨g, L.length * 4 + 3, none⟩ (.inl (.inl rfl)) _
  refine ⟨hc3, hrow7.frozenAt _, ?_, ?_⟩
  · refine h1.updL (vl' := .slice (some ⟨g2, 0, none⟩) (la.length + 1) cap2) (e' := ⟨e.g, e.ah, la ++ [Sx.rep mn mx lz nd], false⟩) rfl hkp1 s3 ?_ (fun b hb => .inl hb) (fun b hb => Nat.lt_of_lt_of_le (hpw b hb) hs.size)
    refine OwnN.monoS hown (fun b hb => hW b (fun ee => hgg (by rw [← ee]; simpa [Value.ownBlock] using hb.symm))) (by rw [hWs]; rw [setAt7_size]; exact Nat.le_refl _) (fun b hb hlt hnb => ?_)
    exact ⟨hb, hW b (fun ee => hb.2.2.1 (by rw [ee]; rfl))⟩
  · exact Kp.after (X := fun b => b = p ∨ (Value.slice (some ⟨g, 0, none⟩) (L.length + 1) cap).ownBlock = some b ∨ g2 = b) (hs.mono (fun b _ hb => .inl hb)) hkp1 (fun b hb hx => by
      rcases hx with hx | hx
      · exact .inr (.inl hx)
      · exact .inr (.inr (by simpa [Value.ownBlock] using hx)))
end Go.Proofs.YtdoapojmenojoaaGreatDoor
end

section
/- The piece just ahead is repeated: the walk. -/
set_option linter.unusedVariables false
namespace Go.Proofs.YtdoapojmenojoaaGreatDoor
open Go.RowKit
open Sx (Nd)

theorem lazy_next (p : Nat) (s : ByteArray) (b gg : Int) (a : Nat) (v : Value) (t : List Int) (hs : s.size ≤ 200) (ha : Sx.At s t a) : ∃ a2, Sx.At s (Sx.lazyB t).2 a2 ∧ ∀ wc, PB wc p s b (a : Int) gg v → Calls Tryz.prog 100 #[.pointer (some ⟨p, 0, none⟩), .string ⟨#[63]⟩] wc fun e w' => e = .returned (.bool (Sx.lazyB t).1) ∧ PB w' p s b (a2 : Nat) gg v ∧ Kp (Own1 p) wc w' := by
  by_cases h : ∃ u, t = 63 :: u
  · obtain ⟨u, rfl⟩ := h
    have hat : ∀ wc, PB wc p s b (a : Int) gg v → Sx.At s u (a + 1) := fun wc hp => (next_yes ⟨#[63]⟩ p s b gg a v wc u hp hs (by decide) (by decide) ha).1
    refine ⟨a + 1, ?_, fun wc hp => (next_yes ⟨#[63]⟩ p s b gg a v wc u hp hs (by decide) (by decide) ha).2⟩
    obtain ⟨h1, h2, h3⟩ := ha.cons
    obtain ⟨_, h4⟩ := Sx.tok_byte h1 h2.symm (by decide) (by decide)
    rw [h4] at h3
    exact h3
  · have e : Sx.lazyB t = (false, t) := by
      unfold Sx.lazyB
      split
      · exact absurd ⟨_, rfl⟩ h
      · rfl
    rw [e]
    exact ⟨a, ha, fun wc hp => next_no ⟨#[63]⟩ p s b gg a v wc t hp hs (by decide) (by decide) ha (fun u hu => h ⟨u, hu⟩)⟩
theorem setAt7_alloc (w : World) (ob : Obj) (g o : Nat) (hg : g < w.heap.size) (x0 x1 x2 x3 x4 x5 x6 : Value) : setAt7 (w.alloc ob) g o x0 x1 x2 x3 x4 x5 x6 = (setAt7 w g o x0 x1 x2 x3 x4 x5 x6).alloc ob := by
  unfold setAt7
  rw [alloc_setCell w ob ⟨g, o, none⟩ x0 hg, alloc_setCell _ ob ⟨g, o + 1, none⟩ x1 (by simpa [World.setCell] using hg), alloc_setCell _ ob ⟨g, o + 2, none⟩ x2 (by simpa [World.setCell] using hg), alloc_setCell _ ob ⟨g, o + 3, none⟩ x3 (by simpa [World.setCell] using hg), alloc_setCell _ ob ⟨g, o + 4, none⟩ x4 (by simpa [World.setCell] using hg), alloc_setCell _ ob ⟨g, o + 5, none⟩ x5 (by simpa [World.setCell] using hg), alloc_setCell _ ob ⟨g, o + 6, none⟩ x6 (by simpa [World.setCell] using hg)]
set_option maxRecDepth 20000 in
set_option maxHeartbeats 4000000 in
theorem rep_bad (base : Nat) (P : Nat → Prop) (p : Nat) (s : ByteArray) (b gg mn mx : Int) (a : Int) (v : Value) (g cap : Nat) (x : Ent) (L : List Ent) (w : World) (hv : v = .slice (some ⟨g, 0, none⟩) (L.length + 1) cap) (hp : PB w p s b a gg v) (h : SK base w P v (x :: L)) (hn : L.length ≤ 100000) (hat : x.e.at' = false) :
    Calls Tryz.prog 105 #[.pointer (some ⟨p, 0, none⟩), .int .i64 mn, .int .i64 mx] w fun e w' => e = pan b 2 ∧ Kp (Own1 p) w w' := by
  obtain ⟨g', cap', hv', hbg, hgl, hgp, hgc, c0, c1, c2, c3, cf⟩ := h.inner
  rw [hv] at hv'
  simp only [Value.slice.injEq, Option.some.injEq, Addr.mk.injEq, and_true, true_and] at hv'
  obtain ⟨rfl, rfl⟩ := hv'
  rw [hat] at c3
  have HPB := Lib.hid hp
  have HI := Lib.hid (inner_any base p s b a gg g L.length cap w (by rw [← hv]; exact hp) hn)
  clear h hv hp
  go_enter Tryz.func105, Tryz.ntmps105
  go_wp2_with (go_at_call 72; refine HI.out.mono ?_; rintro e w1 ⟨rfl, m1, rfl⟩; have k3 : (w.drewN m1).cell? ⟨g, L.length * 4 + 3, none⟩ = some (.bool false) := c3)
  refine (wrong_any p s b a gg v _ (HPB.out.drewN _)).mono ?_
  rintro e w2 ⟨rfl, rfl⟩
  unfold pan
  go_wp2_with fail
  exact ⟨rfl, rfl, (Kp.refl _ w).drewN _⟩
set_option maxRecDepth 20000 in
set_option maxHeartbeats 2000000 in
theorem rep_ok (base : Nat) (P : Nat → Prop) (p : Nat) (s : ByteArray) (b gg mn mx : Int) (a : Nat) (v : Value) (g cap : Nat) (x : Ent) (L : List Ent) (w : World) (la : List Nd) (nd : Nd) (t : List Int) (hv : v = .slice (some ⟨g, 0, none⟩) (L.length + 1) cap) (hp : PB w p s b (a : Int) gg v) (h : SK base w P v (x :: L)) (hn : L.length ≤ 100000) (hat : x.e.at' = true) (hla : x.e.la = la ++ [nd]) (hll : la.length ≤ 100000) (hpw : ∀ b, P b → b < w.heap.size) (hPp : P p) (hs : s.size ≤ 200) (ha : Sx.At s t a) (hm : 0 ≤ mn ∧ mn ≤ 20) (hx : -1 ≤ mx ∧ mx ≤ 20) (hbw : base ≤ w.heap.size) :
    Calls Tryz.prog 105 #[.pointer (some ⟨p, 0, none⟩), .int .i64 mn, .int .i64 mx] w fun e w' => e = .returned (.tuple #[]) ∧ ∃ a2 : Nat, SK base w' P v (⟨x.va, x.vl, ⟨x.e.g, x.e.ah, la ++ [Sx.rep mn mx (Sx.lazyB t).1 nd], false⟩⟩ :: L) ∧ PB w' p s b (a2 : Int) gg v ∧ Sx.At s (Sx.lazyB t).2 a2 ∧ Kp (fun b => b = p ∨ v.ownBlock = some b ∨ x.vl.ownBlock = some b) w w' := by
  obtain ⟨va, vl, e⟩ := x
  obtain ⟨g', cap', hv', hbg, hgl, hgp, hgc, c0, c1, c2, c3, cf⟩ := h.inner
  rw [hv] at hv'
  simp only [Value.slice.injEq, Option.some.injEq, Addr.mk.injEq, and_true, true_and] at hv'
  obtain ⟨rfl, rfl⟩ := hv'
  simp only at c0 c1 c2 c3 hat hla
  rw [hat] at c3
  have hO := (h.rows _ (List.mem_cons_self ..)).2
  simp only at hO
  rw [hla] at hO
  obtain ⟨g2, cap2, k, ka, ki, kj, mn0, mx0, lz0, g0, kb, ks, kt, rfl, hb2, hl2, fz2, h7, hnd⟩ := ownN_last hO
  obtain ⟨a2, hat2, hnx⟩ := lazy_next p s b gg a v t hs ha
  obtain ⟨lz, hlz⟩ : ∃ lz, lz = (Sx.lazyB t).1 := ⟨_, rfl⟩
  rw [← hlz] at hnx ⊢
  clear hlz
  obtain ⟨n0, hn0⟩ : ∃ n0, n0 = la.length := ⟨_, rfl⟩
  have HN0 := Lib.hid hn0
  have HSK := Lib.hid h
  have HPB := Lib.hid hp
  have HV := Lib.hid hv
  have HND := Lib.hid (show NodeS (fun b => Fre base P v (⟨va, .slice (some ⟨g2, 0, none⟩) (la.length + 1) cap2, e⟩ :: L) b ∧ b < w.heap.size ∧ b ≠ g2) w k (.slice ka ki kj) mn0 mx0 lz0 g0 (.slice kb ks kt) nd from hnd.mono (fun b hb => ⟨⟨hb.1, hb.2.1, fun ee => hb.2.2 (by rw [ee]; rfl)⟩, rfl⟩))
  have HLA := Lib.hid hla
  have HNX := Lib.hid hnx
  have HAT := Lib.hid hat2
  have hg2p : g2 ≠ p := fun ee => h.notp (.slice (some ⟨g2, 0, none⟩) (la.length + 1) cap2) (by rw [rws_cons]; simp) g2 rfl (by rw [ee]; exact hPp)
  have hgpn : g ≠ p := fun ee => hgp (by rw [ee]; exact hPp)
  have hgg : g ≠ g2 := fun ee => (List.pairwise_cons.1 h.apart).1 (.slice (some ⟨g2, 0, none⟩) (la.length + 1) cap2) (by rw [rws_cons]; simp) g (by rw [hv]; rfl) (by rw [ee]; rfl)
  have HI := Lib.hid (inner_any base p s b a gg g L.length cap w (by rw [← hv]; exact hp) hn)
  rw [← hn0] at c2 h7
  have hn0b : n0 ≤ 100000 := by rw [hn0]; exact hll
  have hi9 : (n0 : Int) < (n0 : Int) + 1 := by omega
  have hw3 : IntKind.i64.wrap (((n0 + 1 : Nat) : Int) - 1) = (n0 : Int) := (IntWalk.i64_in _ ⟨by omega, by omega⟩).trans (by omega)
  have H7 := Lib.hid h7
  clear h hv hp hla hnx hat2 hO hnd hn0 hat h7
  go_enter Tryz.func105, Tryz.ntmps105
  go_wp2_with (go_at_call 72; refine HI.out.mono ?_; rintro e w1 ⟨rfl, m1, rfl⟩; generalize hwq : w.drewN m1 = wq; have k3 : wq.cell? ⟨g, L.length * 4 + 3, none⟩ = some (.bool true) := (by rw [← hwq]; exact c3); have k2 : wq.cell? ⟨g, L.length * 4 + 2, none⟩ = some (.slice (some ⟨g2, 0, none⟩) (n0 + 1) cap2) := (by rw [← hwq]; exact c2); have HWQ := Lib.hid hwq; clear hwq)
  go_quiet (fail)
  go_wp2_with fail
  obtain ⟨wz, hwz⟩ : ∃ wz, wz = wq.drewN nq := ⟨_, rfl⟩
  have HZ := Lib.hid (show wz.heap = w.heap ∧ Kp (Own1 p) w wz ∧ PB wz p s b (a : Int) gg v ∧ Seven wz g2 (n0 * 7) k (.slice ka ki kj) mn0 mx0 lz0 g0 (.slice kb ks kt) from by
    rw [hwz, ← HWQ.out]
    exact ⟨rfl, ((Kp.refl _ w).drewN _).drewN _, (HPB.out.drewN _).drewN _, H7.out⟩)
  have q3 : wz.cell? ⟨g, L.length * 4 + 3, none⟩ = some (.bool true) := by rw [hwz]; exact k3
  have qf : ∀ o, wz.frozen? ⟨g2, o, none⟩ = false := fun o => by rw [hwz, ← HWQ.out]; exact fz2 o
  rw [← hwz]
  have hl2z : g2 < wz.heap.size := by rw [HZ.out.1]; exact hl2
  have hng2 : ¬ g2 = wz.heap.size := Nat.ne_of_lt hl2z
  obtain ⟨f0, f1, f2, f3, f4, f5, f6⟩ := HZ.out.2.2.2
  clear hwz k3 k2 HWQ H7 c0 c1 c2 c3 cf
  go_region_law (first | (go_simp; go_at_call 100; refine (HNX.out _ (by first | exact HZ.out.2.2.1.drew | exact (HZ.out.2.2.1.drew).alloc _)).mono ?_; rintro e1 w1 ⟨rfl, hp1, hk1⟩; (try (have hz7 := ((Seven.box wz.drew k (.slice ka ki kj) mn0 mx0 lz0 g0 (.slice kb ks kt) 29).block (hk1.block wz.heap.size (by simp) (by have := HPB.out.lt; have := HZ.out.1; unfold Own1; rw [this]; omega))); have hz1 := Nat.lt_of_lt_of_le (show wz.heap.size < (wz.drew.alloc (.cells #[.int .i64 k, .slice ka ki kj, .int .i64 mn0, .int .i64 mx0, .bool lz0, .int .i64 g0, .slice kb ks kt] 29)).heap.size by simp) hk1.size)); have hkz := (show Kp (Own1 p) w w1 from (by first | exact (HZ.out.2.1.drew).trans hk1 | exact ((HZ.out.2.1.drew).alloc _).trans hk1)); have hg2w := (show w1.heap[g2]? = wz.heap[g2]? from ((hkz.block g2 hl2 hg2p).trans (by rw [HZ.out.1]))); obtain ⟨y0, y1, y2, y3, y4, y5, y6⟩ := HZ.out.2.2.2.block hg2w; have yf := (fun o => (frozen_of_block (a := ⟨g2, o, none⟩) hg2w).trans (qf o)); have hl2w := Nat.lt_of_lt_of_le hl2 hkz.size; have hn2w : ¬ g2 = w1.heap.size := Nat.ne_of_lt hl2w; have HP1 := Lib.hid hp1; have HK1 := Lib.hid hkz; clear hp1 hk1 hkz))
  all_goals first
    | (skip
       have HE := Lib.hid (rep_end (lz := lz) HV.out HSK.out HLA.out hpw hPp (HK1.out.alloc (.cells #[.int .i64 k, .slice ka ki kj, .int .i64 mn0, .int .i64 mx0, .bool lz0, .int .i64 g0, .slice kb ks kt] 29)) (HK1.out.size) (by simp) (Seven.box w1 k (.slice ka ki kj) mn0 mx0 lz0 g0 (.slice kb ks kt) 29) HND.out hm hx hbw)
       rw [← HN0.out] at HE
       with_reducible change Exit.then _ _ _ _ ((setAt7 w1 g2 (n0 * 7) (.int .i64 8) (.slice none 0 0) (.int .i64 mn) (.int .i64 mx) (.bool lz) (.int .i64 0) (.slice (some ⟨w1.heap.size, 0, none⟩) 1 1)).alloc (.cells #[.int .i64 k, .slice ka ki kj, .int .i64 mn0, .int .i64 mx0, .bool lz0, .int .i64 g0, .slice kb ks kt] 29))
       rw [← setAt7_alloc w1 _ g2 _ hl2w]
       have hpf : PB ((setAt7 (w1.alloc (.cells #[.int .i64 k, .slice ka ki kj, .int .i64 mn0, .int .i64 mx0, .bool lz0, .int .i64 g0, .slice kb ks kt] 29)) g2 (n0 * 7) (.int .i64 8) (.slice none 0 0) (.int .i64 mn) (.int .i64 mx) (.bool lz) (.int .i64 0) (.slice (some ⟨w1.heap.size, 0, none⟩) 1 1)).setCell ⟨g, L.length * 4 + 3, none⟩ (.bool false)) p s b (a2 : Nat) gg v := ((Below.heap_setCell _ _ _ p (by simp only; exact Ne.symm hgpn)).trans (setAt7_block _ _ _ _ _ _ _ _ _ _ p (Ne.symm hg2p))).trans (HP1.out.alloc _)
       obtain ⟨d3, df, hsk, hkk⟩ := HE.out
       have HF := Lib.hid hsk
       have HKK := Lib.hid hkk
       have HPF := Lib.hid hpf
       clear hsk hkk HE hpf y0 y1 y2 y3 y4 y5 y6 f0 f1 f2 f3 f4 f5 f6 q3 qf yf HZ HPB HSK HND fz2
       generalize (setAt7 (w1.alloc (.cells #[.int .i64 k, .slice ka ki kj, .int .i64 mn0, .int .i64 mx0, .bool lz0, .int .i64 g0, .slice kb ks kt] 29)) g2 (n0 * 7) (.int .i64 8) (.slice none 0 0) (.int .i64 mn) (.int .i64 mx) (.bool lz) (.int .i64 0) (.slice (some ⟨w1.heap.size, 0, none⟩) 1 1)) = W at d3 df HF HKK HPF ⊢
       go_wp2_with fail
       go_end0
       rw [HN0.out] at HF
       exact ⟨rfl, a2, HF.out, HPF.out, HAT.out, HKK.out.mono (fun c _ hc => hc.elim .inl (fun hc => hc.elim (fun hc => .inr (.inl hc)) (fun hc => .inr (.inr (by rw [← hc]; rfl)))))⟩
      )
    | (skip
       have HE := Lib.hid (rep_end (lz := lz) HV.out HSK.out HLA.out hpw hPp (HK1.out) (by rw [HZ.out.1]; exact Nat.le_refl _) (hz1) (hz7) HND.out hm hx hbw)
       rw [← HN0.out] at HE
       with_reducible change Exit.then _ _ _ _ (setAt7 w1 g2 (n0 * 7) (.int .i64 8) (.slice none 0 0) (.int .i64 mn) (.int .i64 mx) (.bool lz) (.int .i64 0) (.slice (some ⟨wz.heap.size, 0, none⟩) 1 1))
       have hpf : PB ((setAt7 w1 g2 (n0 * 7) (.int .i64 8) (.slice none 0 0) (.int .i64 mn) (.int .i64 mx) (.bool lz) (.int .i64 0) (.slice (some ⟨wz.heap.size, 0, none⟩) 1 1)).setCell ⟨g, L.length * 4 + 3, none⟩ (.bool false)) p s b (a2 : Nat) gg v := ((Below.heap_setCell _ _ _ p (by simp only; exact Ne.symm hgpn)).trans (setAt7_block _ _ _ _ _ _ _ _ _ _ p (Ne.symm hg2p))).trans (HP1.out)
       obtain ⟨d3, df, hsk, hkk⟩ := HE.out
       have HF := Lib.hid hsk
       have HKK := Lib.hid hkk
       have HPF := Lib.hid hpf
       clear hsk hkk HE hpf y0 y1 y2 y3 y4 y5 y6 f0 f1 f2 f3 f4 f5 f6 q3 qf yf HZ HPB HSK HND fz2
       generalize (setAt7 w1 g2 (n0 * 7) (.int .i64 8) (.slice none 0 0) (.int .i64 mn) (.int .i64 mx) (.bool lz) (.int .i64 0) (.slice (some ⟨wz.heap.size, 0, none⟩) 1 1)) = W at d3 df HF HKK HPF ⊢
       go_wp2_with fail
       go_end0
       rw [HN0.out] at HF
       exact ⟨rfl, a2, HF.out, HPF.out, HAT.out, HKK.out.mono (fun c _ hc => hc.elim .inl (fun hc => hc.elim (fun hc => .inr (.inl hc)) (fun hc => .inr (.inr (by rw [← hc]; rfl)))))⟩
      )
end Go.Proofs.YtdoapojmenojoaaGreatDoor
end
