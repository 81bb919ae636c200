import Derived.Test.YtdoapojmenojoaaGreatDoorJPFlat
import Derived.Test.YtdoapojmenojoaaGreatDoorJPClass
import Derived.Deep.AppendLies
import Derived.Deep.RegionLaw
set_option linter.unusedSimpArgs false
set_option linter.unusedVariables false
section
/- The stack of what is open, in memory. -/
set_option linter.unusedVariables false
namespace Go.Proofs.YtdoapojmenojoaaGreatDoor
open Go.RowKit
open Sx (Nd)

theorem Tryz.infoE : (Tryz.prog.info? 73).map (fun i => (i.zero, i.size, i.bytes)) = some (some (.agg #[.int .i64 0, .slice none 0 0, .slice none 0 0, .bool false]), 4, 64) := by kernel_rfl
/- one that is open: its rows, and what they are -/
structure Ent where
  va : Value
  vl : Value
  e : Sx.E
def ecells (x : Ent) : List Value := [.int .i64 x.e.g, x.va, x.vl, .bool x.e.at']
def rws (L : List Ent) : List Value := L.flatMap fun x => [x.va, x.vl]
def ecl (L : List Ent) : List Value := L.reverse.flatMap ecells
theorem ecl_cons (x : Ent) (L : List Ent) : ecl (x :: L) = ecl L ++ ecells x := by simp [ecl]
theorem ecl_len : ∀ L : List Ent, (ecl L).length = L.length * 4
  | [] => rfl
  | x :: L => by rw [ecl_cons, List.length_append, ecl_len L]; simp [ecells]; omega
/- where nodes may lie -/
def Fre (base : Nat) (p : Nat → Prop) (v : Value) (L : List Ent) (b : Nat) : Prop := base ≤ b ∧ ¬ p b ∧ v.ownBlock ≠ some b ∧ ∀ u ∈ rws L, u.ownBlock ≠ some b
def Ap (a b : Value) : Prop := ∀ g, a.ownBlock = some g → b.ownBlock ≠ some g
structure SK (base : Nat) (w : World) (p : Nat → Prop) (v : Value) (L : List Ent) : Prop where
  row : w.ownsRow base 73 4 v L.length (ecl L)
  rows : ∀ x ∈ L, OwnN (Fre base p v L) w base 29 x.va x.e.ah ∧ OwnN (Fre base p v L) w base 29 x.vl x.e.la
  apart : (v :: rws L).Pairwise Ap
  notp : ∀ u ∈ v :: rws L, ∀ g, u.ownBlock = some g → ¬ p g
theorem OwnN.monoS {S S' : Nat → Prop} {w w' : World} {base : Nat} {ty : TypeId} {v : Value} {l : List Nd} (h : OwnN S w base ty v l) (hv : ∀ g, v.ownBlock = some g → w'.heap[g]? = w.heap[g]?) (hs : w.heap.size ≤ w'.heap.size) (hS : ∀ b, S b → b < w.heap.size → v.ownBlock ≠ some b → S' b ∧ w'.heap[b]? = w.heap[b]?) : OwnN S' w' base ty v l := by
  obtain ⟨xs, ho, hn⟩ := h
  refine ⟨xs, ⟨ho.1, ?_⟩, fun i n hi => ?_⟩
  · rcases ho.2 with h0 | ⟨g, cap, cur, rfl, hg, hh, hr⟩
    · exact .inl h0
    · exact .inr ⟨g, cap, cur, rfl, hg, (hv g rfl).trans hh, hr⟩
  · obtain ⟨k, vc, mn, mx, lz, g, vl, x0, x1, x2, x3, x4, x5, x6, hh⟩ := hn i n hi
    exact ⟨k, vc, mn, mx, lz, g, vl, x0, x1, x2, x3, x4, x5, x6, hh.mono (fun b hb => ⟨⟨(hS b hb.1 hb.2.1 hb.2.2).1, Nat.lt_of_lt_of_le hb.2.1 hs, hb.2.2⟩, (hS b hb.1 hb.2.1 hb.2.2).2⟩)⟩
theorem ownN_lt {S : Nat → Prop} {w : World} {base : Nat} {ty : TypeId} {v : Value} {l : List Nd} (h : OwnN S w base ty v l) {g : Nat} (hg : v.ownBlock = some g) : base ≤ g ∧ g < w.heap.size := by
  obtain ⟨xs, ho, _⟩ := h
  exact ho.lt g hg
theorem rws_cons (x : Ent) (L : List Ent) : rws (x :: L) = x.va :: x.vl :: rws L := rfl
theorem mem_rws {x : Ent} {L : List Ent} (h : x ∈ L) : x.va ∈ rws L ∧ x.vl ∈ rws L := by
  unfold rws
  exact ⟨List.mem_flatMap.2 ⟨x, h, by simp⟩, List.mem_flatMap.2 ⟨x, h, by simp⟩⟩
theorem rws_lt {base : Nat} {p : Nat → Prop} {w : World} {v : Value} {L : List Ent} (h : SK base w p v L) {u : Value} (hu : u ∈ rws L) {g : Nat} (hg : u.ownBlock = some g) : base ≤ g ∧ g < w.heap.size := by
  unfold rws at hu
  obtain ⟨x, hx, hu⟩ := List.mem_flatMap.1 hu
  have hr := h.rows x hx
  simp only [List.mem_cons, List.not_mem_nil, or_false] at hu
  rcases hu with rfl | rfl
  · exact ownN_lt hr.1 hg
  · exact ownN_lt hr.2 hg
/- nothing of it is written -/
theorem SK.kp {X : Nat → Prop} {base : Nat} {p : Nat → Prop} {w w' : World} {v : Value} {L : List Ent} (h : SK base w p v L) (k : Kp X w w') (hX : ∀ b, b < w.heap.size → X b → p b) : SK base w' p v L := by
  have hp := h.notp
  refine ⟨⟨h.row.1, ?_⟩, fun x hx => ?_, h.apart, h.notp⟩
  · rcases h.row.2 with h0 | ⟨g, cap, cur, e, hg, hh, hr⟩
    · exact .inl h0
    · have hgl := (Array.getElem?_eq_some_iff.1 hh).1
      exact .inr ⟨g, cap, cur, e, hg, (k.block g hgl (fun hx => hp v (by simp) g (by rw [e]; rfl) (hX g hgl hx))).trans hh, hr⟩
  · have hr := h.rows x hx
    have hm := mem_rws hx
    have hS : ∀ b, Fre base p v L b → b < w.heap.size → Fre base p v L b ∧ w'.heap[b]? = w.heap[b]? := fun b hb hl => ⟨hb, k.block b hl (fun hx => hb.2.1 (hX b hl hx))⟩
    exact ⟨hr.1.monoS (fun g hg => k.block g (ownN_lt hr.1 hg).2 (fun hx' => hp _ (List.mem_cons_of_mem _ hm.1) g hg (hX g (ownN_lt hr.1 hg).2 hx'))) k.size (fun b h1 h2 _ => hS b h1 h2),
      hr.2.monoS (fun g hg => k.block g (ownN_lt hr.2 hg).2 (fun hx' => hp _ (List.mem_cons_of_mem _ hm.2) g hg (hX g (ownN_lt hr.2 hg).2 hx'))) k.size (fun b h1 h2 _ => hS b h1 h2)⟩
theorem SK.below {base : Nat} {p : Nat → Prop} {w w' : World} {v : Value} {L : List Ent} (h : SK base w p v L) (hb : Below w.heap.size w w') : SK base w' p v L := h.kp (below_kp (fun _ => False) hb) (fun b _ hx => hx.elim)
/- the inner one is another: its rows are where they were, or new -/
abbrev UpX (v : Value) (x : Ent) : Nat → Prop := fun b => v.ownBlock = some b ∨ x.va.ownBlock = some b ∨ x.vl.ownBlock = some b
theorem SK.upd {base : Nat} {p : Nat → Prop} {w w' : World} {v : Value} {x x' : Ent} {L : List Ent} (h : SK base w p v (x :: L)) (k : Kp (UpX v x) w w') (row : w'.ownsRow base 73 4 v (L.length + 1) (ecl L ++ ecells x'))
    (ha : OwnN (Fre base p v (x' :: L)) w' base 29 x'.va x'.e.ah) (hl : OwnN (Fre base p v (x' :: L)) w' base 29 x'.vl x'.e.la)
    (fa : ∀ g, x'.va.ownBlock = some g → x.va.ownBlock = some g ∨ w.heap.size ≤ g) (fl : ∀ g, x'.vl.ownBlock = some g → x.vl.ownBlock = some g ∨ w.heap.size ≤ g) (hal : Ap x'.va x'.vl) (hps : ∀ b, p b → b < w.heap.size) : SK base w' p v (x' :: L) := by
  have hap := h.apart
  rw [rws_cons, List.pairwise_cons, List.pairwise_cons, List.pairwise_cons] at hap
  obtain ⟨hv, ha1, hl1, hL⟩ := hap
  have hnp := h.notp
  rw [rws_cons] at hnp
  have hvlt : ∀ g, v.ownBlock = some g → g < w.heap.size := fun g hg => (h.row.lt g hg).2
  have hLlt : ∀ u ∈ rws L, ∀ g, u.ownBlock = some g → g < w.heap.size := fun u hu g hg => (rws_lt h (by rw [rws_cons]; simp [hu]) hg).2
  have hmv : ∀ b, Fre base p v (x :: L) b → b < w.heap.size → Fre base p v (x' :: L) b ∧ w'.heap[b]? = w.heap[b]? := fun b hb hlt => by
    obtain ⟨b1, b2, b3, b4⟩ := hb
    rw [rws_cons] at b4
    refine ⟨⟨b1, b2, b3, fun u hu => ?_⟩, k.block b hlt (fun hx => ?_)⟩
    · rw [rws_cons] at hu
      rcases List.mem_cons.1 hu with rfl | hu
      · intro e; rcases fa b e with e' | e'
        · exact b4 _ (by simp) e'
        · omega
      · rcases List.mem_cons.1 hu with rfl | hu
        · intro e; rcases fl b e with e' | e'
          · exact b4 _ (by simp) e'
          · omega
        · exact b4 u (by simp [hu])
    · rcases hx with e | e | e
      · exact b3 e
      · exact b4 _ (by simp) e
      · exact b4 _ (by simp) e
  refine ⟨by rw [List.length_cons, ecl_cons]; exact row, fun y hy => ?_, ?_, ?_⟩
  · rcases List.mem_cons.1 hy with rfl | hy
    · exact ⟨ha, hl⟩
    · have hr := h.rows y (List.mem_cons_of_mem _ hy)
      have hm := mem_rws hy
      have hkeep : ∀ u ∈ rws L, ∀ g, u.ownBlock = some g → w'.heap[g]? = w.heap[g]? := fun u hu g hg => k.block g (hLlt u hu g hg) (fun hx => by
        rcases hx with e | e | e
        · exact hv u (by simp [hu]) g e hg
        · exact ha1 u (by simp [hu]) g e hg
        · exact hl1 u hu g e hg)
      exact ⟨hr.1.monoS (hkeep _ hm.1) k.size (fun b h1 h2 _ => hmv b h1 h2), hr.2.monoS (hkeep _ hm.2) k.size (fun b h1 h2 _ => hmv b h1 h2)⟩
  · rw [rws_cons, List.pairwise_cons, List.pairwise_cons, List.pairwise_cons]
    refine ⟨fun u hu g hg e => ?_, fun u hu g hg e => ?_, fun u hu g hg e => ?_, hL⟩
    · rcases List.mem_cons.1 hu with rfl | hu
      · rcases fa g e with e' | e'
        · exact hv _ (by simp) g hg e'
        · have := hvlt g hg; omega
      · rcases List.mem_cons.1 hu with rfl | hu
        · rcases fl g e with e' | e'
          · exact hv _ (by simp) g hg e'
          · have := hvlt g hg; omega
        · exact hv u (by simp [hu]) g hg e
    · rcases List.mem_cons.1 hu with rfl | hu
      · exact hal g hg e
      · rcases fa g hg with e' | e'
        · exact ha1 u (by simp [hu]) g e' e
        · have := hLlt u hu g e; omega
    · rcases fl g hg with e' | e'
      · exact hl1 u hu g e' e
      · have := hLlt u hu g e; omega
  · intro u hu y e hpy
    have hyl := hps y hpy
    rcases List.mem_cons.1 hu with rfl | hu
    · exact hnp _ (by simp) y e hpy
    · rw [rws_cons] at hu
      rcases List.mem_cons.1 hu with rfl | hu
      · rcases fa y e with e' | e'
        · exact hnp _ (by simp) y e' hpy
        · omega
      · rcases List.mem_cons.1 hu with rfl | hu
        · rcases fl y e with e' | e'
          · exact hnp _ (by simp) y e' hpy
          · omega
        · exact hnp u (by simp [hu]) y e hpy
/- what was free stays so -/
theorem SK.free {base : Nat} {p : Nat → Prop} {w : World} {v : Value} {x x' : Ent} {L : List Ent} (h : SK base w p v (x :: L)) (fa : ∀ g, x'.va.ownBlock = some g → x.va.ownBlock = some g ∨ w.heap.size ≤ g) (fl : ∀ g, x'.vl.ownBlock = some g → x.vl.ownBlock = some g ∨ w.heap.size ≤ g) {b : Nat} (hb : Fre base p v (x :: L) b) (hlt : b < w.heap.size) : Fre base p v (x' :: L) b ∧ ¬ UpX v x b := by
  obtain ⟨b1, b2, b3, b4⟩ := hb
  rw [rws_cons] at b4
  refine ⟨⟨b1, b2, b3, fun u hu => ?_⟩, ?_⟩
  · rw [rws_cons] at hu
    rcases List.mem_cons.1 hu with rfl | hu
    · intro e; rcases fa b e with e' | e'
      · exact b4 _ (by simp) e'
      · omega
    · rcases List.mem_cons.1 hu with rfl | hu
      · intro e; rcases fl b e with e' | e'
        · exact b4 _ (by simp) e'
        · omega
      · exact b4 u (by simp [hu])
  · rintro (e | e | e)
    · exact b3 e
    · exact b4 _ (by simp) e
    · exact b4 _ (by simp) e
/- its last pieces alone are others -/
theorem SK.updL {base : Nat} {p : Nat → Prop} {w w' : World} {v : Value} {x : Ent} {vl' : Value} {e' : Sx.E} {L : List Ent} (h : SK base w p v (x :: L)) (hah : e'.ah = x.e.ah) (k : Kp (fun b => v.ownBlock = some b ∨ x.vl.ownBlock = some b) w w') (row : w'.ownsRow base 73 4 v (L.length + 1) (ecl L ++ ecells ⟨x.va, vl', e'⟩))
    (hl : OwnN (Fre base p v (⟨x.va, vl', e'⟩ :: L)) w' base 29 vl' e'.la) (fl : ∀ g, vl'.ownBlock = some g → x.vl.ownBlock = some g ∨ w.heap.size ≤ g) (hps : ∀ b, p b → b < w.heap.size) : SK base w' p v (⟨x.va, vl', e'⟩ :: L) := by
  have hap := h.apart
  rw [rws_cons, List.pairwise_cons, List.pairwise_cons] at hap
  have hr := (h.rows x (List.mem_cons_self ..)).1
  refine h.upd (x' := ⟨x.va, vl', e'⟩) (k.mono (fun b _ hb => hb.elim .inl (fun hb => .inr (.inr hb)))) row ?_ hl (fun g hg => .inl hg) fl (fun g hg e => ?_) hps
  · rw [hah]
    refine hr.monoS (fun g hg => k.block g (ownN_lt hr hg).2 (fun hx => ?_)) k.size (fun b hb hlt _ => ?_)
    · rcases hx with e | e
      · exact hap.1 x.va (by simp) g e hg
      · exact hap.2.1 x.vl (by simp) g hg e
    · have hf := h.free (x' := ⟨x.va, vl', e'⟩) (fun g hg => .inl hg) fl hb hlt
      exact ⟨hf.1, k.block b hlt (fun hx => hf.2 (hx.elim .inl (fun hx => .inr (.inr hx))))⟩
  · rcases fl g e with e2 | e2
    · exact hap.2.1 x.vl (by simp) g hg e2
    · have := (ownN_lt hr hg).2
      simp only at hg
      have := (ownN_lt hr hg).2
      omega
/- where the inner one stands -/
theorem SK.inner {base : Nat} {p : Nat → Prop} {w : World} {v : Value} {x : Ent} {L : List Ent} (h : SK base w p v (x :: L)) : ∃ g cap, v = .slice (some ⟨g, 0, none⟩) (L.length + 1) cap ∧ base ≤ g ∧ g < w.heap.size ∧ ¬ p g ∧ L.length + 1 ≤ cap ∧
    w.cell? ⟨g, L.length * 4, none⟩ = some (.int .i64 x.e.g) ∧ w.cell? ⟨g, L.length * 4 + 1, none⟩ = some x.va ∧ w.cell? ⟨g, L.length * 4 + 2, none⟩ = some x.vl ∧ w.cell? ⟨g, L.length * 4 + 3, none⟩ = some (.bool x.e.at') ∧ (∀ o, w.frozen? ⟨g, o, none⟩ = false) := by
  have hrow := h.row
  rcases hrow.2 with ⟨_, h0⟩ | ⟨g, cap, cur, rfl, hbg, hh, hnc, _, _, _⟩
  · simp at h0
  · have hgl := (Array.getElem?_eq_some_iff.1 hh).1
    have hc : ∀ t, t < 4 → w.cell? ⟨g, L.length * 4 + t, none⟩ = (ecl L ++ ecells x)[L.length * 4 + t]? := fun t ht => by
      rw [← ecl_cons]
      exact hrow.cellAt _ (by simp; omega)
    have hx : ∀ t, (ecl L ++ ecells x)[L.length * 4 + t]? = (ecells x)[t]? := fun t => by
      rw [List.getElem?_append_right (by rw [ecl_len]; omega), ecl_len, Nat.add_sub_cancel_left]
    refine ⟨g, cap, rfl, hbg, hgl, h.notp (.slice (some ⟨g, 0, none⟩) (L.length + 1) cap) (List.mem_cons_self ..) g rfl, hnc, ?_, ?_, ?_, ?_, fun o => hrow.frozenAt o⟩
    · have := (hc 0 (by omega)).trans (hx 0); simpa [ecells] using this
    · exact (hc 1 (by omega)).trans (hx 1)
    · exact (hc 2 (by omega)).trans (hx 2)
    · exact (hc 3 (by omega)).trans (hx 3)
end Go.Proofs.YtdoapojmenojoaaGreatDoor
end

section
/- The inner expression; an atom behind its pieces. -/
set_option linter.unusedVariables false
namespace Go.Proofs.YtdoapojmenojoaaGreatDoor
open Go.RowKit
open Sx (Nd)

set_option maxRecDepth 20000 in
set_option maxHeartbeats 4000000 in
theorem inner_any (base p : Nat) (s : ByteArray) (b a gg : Int) (g n cap : Nat) (w : World) (h : PB w p s b a gg (.slice (some ⟨g, 0, none⟩) (n + 1) cap)) (hn : n ≤ 100000) :
    Calls Tryz.prog 72 #[.pointer (some ⟨p, 0, none⟩)] w fun e w' => e = .returned (.pointer (some ⟨g, n * 4, none⟩)) ∧ ∃ m, w' = w.drewN m := by
  have h4 := h.c4
  have hw1 : IntKind.i64.wrap (((n + 1 : Nat) : Int) - 1) = (n : Int) := (IntWalk.i64_in _ ⟨by omega, by omega⟩).trans (by omega)
  have hw2 : wrap64 ((n : Int) + 1 - 1) = (n : Int) := (IntWalk.wrap64_in _ ⟨by omega, by omega⟩).trans (by omega)
  have hlt : (n : Int) < ((n + 1 : Nat) : Int) := by omega
  clear h
  go_enter Tryz.func72, Tryz.ntmps72
  go_wp2_with fail
  go_quiet (fail)
  go_wp2_with fail
  go_ret
  exact ⟨rfl, nq, rfl⟩
/- a node of a row of the call's own is another -/
abbrev setAt7 (w : World) (g o : Nat) (a b c d e f h : Value) : World := ((((((w.setCell ⟨g, o, none⟩ a).setCell ⟨g, o + 1, none⟩ b).setCell ⟨g, o + 2, none⟩ c).setCell ⟨g, o + 3, none⟩ d).setCell ⟨g, o + 4, none⟩ e).setCell ⟨g, o + 5, none⟩ f).setCell ⟨g, o + 6, none⟩ h
theorem setAt7_block (w : World) (g o : Nat) (a b c d e f h : Value) (k : Nat) (hk : k ≠ g) : (setAt7 w g o a b c d e f h).heap[k]? = w.heap[k]? := by
  unfold setAt7
  iterate 7 rw [Below.heap_setCell _ _ _ _ hk]
theorem setAt7_size (w : World) (g o : Nat) (a b c d e f h : Value) : (setAt7 w g o a b c d e f h).heap.size = w.heap.size := by simp [setAt7, World.setCell]
theorem Kp.setAt7 {X : Nat → Prop} {a w : World} (h : Kp X a w) {g : Nat} (hg : X g ∨ a.heap.size ≤ g) (o : Nat) (x0 x1 x2 x3 x4 x5 x6 : Value) : Kp X a (setAt7 w g o x0 x1 x2 x3 x4 x5 x6) :=
  ((((((h.set ⟨g, o, none⟩ hg x0).set ⟨g, o + 1, none⟩ hg x1).set ⟨g, o + 2, none⟩ hg x2).set ⟨g, o + 3, none⟩ hg x3).set ⟨g, o + 4, none⟩ hg x4).set ⟨g, o + 5, none⟩ hg x5).set ⟨g, o + 6, none⟩ hg x6
theorem OwnN.setAt {S : Nat → Prop} {w : World} {base : Nat} {ty : TypeId} {g n cap : Nat} {l : List Nd} (h : OwnN S w base ty (.slice (some ⟨g, 0, none⟩) n cap) l) {i : Nat} (hi : i < l.length) {k mn mx gg : Int} {lz : Bool} {vc vl : Value} {nd : Nd}
    (hk : NodeS (fun b => S b ∧ b < w.heap.size ∧ b ≠ g) w k vc mn mx lz gg vl nd) :
    OwnN S (Go.Proofs.YtdoapojmenojoaaGreatDoor.setAt7 w g (i * 7) (.int .i64 k) vc (.int .i64 mn) (.int .i64 mx) (.bool lz) (.int .i64 gg) vl) base ty (.slice (some ⟨g, 0, none⟩) n cap) (l.set i nd) := by
  obtain ⟨xs, ho, hn⟩ := h
  have hl : n = l.length := by
    rcases ho.2 with ⟨h0, _⟩ | ⟨_, _, _, h0, _⟩
    · cases h0
    · cases h0; rfl
  subst hl
  have hxl : xs.length = l.length * 7 := ho.1
  have hmv : ∀ b, (S b ∧ b < w.heap.size ∧ b ≠ g) → (S b ∧ b < (Go.Proofs.YtdoapojmenojoaaGreatDoor.setAt7 w g (i * 7) (.int .i64 k) vc (.int .i64 mn) (.int .i64 mx) (.bool lz) (.int .i64 gg) vl).heap.size ∧ (Value.slice (some ⟨g, 0, none⟩) l.length cap).ownBlock ≠ some b) ∧ (Go.Proofs.YtdoapojmenojoaaGreatDoor.setAt7 w g (i * 7) (.int .i64 k) vc (.int .i64 mn) (.int .i64 mx) (.bool lz) (.int .i64 gg) vl).heap[b]? = w.heap[b]? := fun b hb =>
    ⟨⟨hb.1, by rw [setAt7_size]; exact hb.2.1, fun e => hb.2.2 (by simp [Value.ownBlock] at e; exact e.symm)⟩, setAt7_block _ _ _ _ _ _ _ _ _ _ b hb.2.2⟩
  have s0 := (ho.stored (i * 7) (.int .i64 k)).1
  have s1 := (s0.stored (i * 7 + 1) vc).1
  have s2 := (s1.stored (i * 7 + 2) (.int .i64 mn)).1
  have s3 := (s2.stored (i * 7 + 3) (.int .i64 mx)).1
  have s4 := (s3.stored (i * 7 + 4) (.bool lz)).1
  have s5 := (s4.stored (i * 7 + 5) (.int .i64 gg)).1
  have s6 := (s5.stored (i * 7 + 6) vl).1
  refine ⟨_, by rw [List.length_set]; exact s6, fun j m hj => ?_⟩
  by_cases hji : j = i
  · subst hji
    rw [List.getElem?_set_self hi] at hj
    simp only [Option.some.injEq] at hj
    subst hj
    refine ⟨k, vc, mn, mx, lz, gg, vl, ?_, ?_, ?_, ?_, ?_, ?_, ?_, hk.mono hmv⟩
    all_goals ((repeat rw [List.getElem?_set_ne (by omega)]); rw [List.getElem?_set_self (by first | omega | (simp only [List.length_set]; omega))])
  · rw [List.getElem?_set_ne (Ne.symm hji)] at hj
    obtain ⟨k2, vc2, mn2, mx2, lz2, g2, vl2, x0, x1, x2, x3, x4, x5, x6, hh⟩ := hn j m hj
    refine ⟨k2, vc2, mn2, mx2, lz2, g2, vl2, ?_, ?_, ?_, ?_, ?_, ?_, ?_, hh.mono (fun b hb => hmv b ⟨hb.1, hb.2.1, fun e => hb.2.2 (by rw [e]; rfl)⟩)⟩
    all_goals ((repeat rw [List.getElem?_set_ne (by omega)]); assumption)
end Go.Proofs.YtdoapojmenojoaaGreatDoor
end
