/- VaryReads: a reader's variable in memory. -/
import Derived.Test.YtahckijanjbagaaVaryLaws
import Derived.Test.YtahckijanjbagaaVaryPadsM
import Derived.Deep.RegionHeld3
import Derived.Deep.DeepCutAuto
import Derived.BigRegion
import Derived.Deep.CutBlock
set_option linter.unusedVariables false
namespace Go.Proofs.Ytahckijanjbagaa
open Go.RowKit

/- block g holds the reader (S, E), and may be written; below w0 nothing has turned -/
def XC (g : Nat) (S : ByteArray) (E : Int) (w : World) : Prop :=
  w.cell? ⟨g, 0, none⟩ = some (.string S) ∧ w.cell? ⟨g, 1, none⟩ = some (.int .i64 E) ∧ w.frozen? ⟨g, 0, none⟩ = false ∧ w.frozen? ⟨g, 1, none⟩ = false ∧ g < w.heap.size
theorem XC.below {g : Nat} {S : ByteArray} {E : Int} {w w1 : World} (h : XC g S E w) (hb : Below w.heap.size w w1) : XC g S E w1 :=
  ⟨(hb.cell (p := ⟨g, 0, none⟩) h.2.2.2.2).trans h.1, (hb.cell (p := ⟨g, 1, none⟩) h.2.2.2.2).trans h.2.1, (hb.frozen (p := ⟨g, 0, none⟩) h.2.2.2.2).trans h.2.2.1, (hb.frozen (p := ⟨g, 1, none⟩) h.2.2.2.2).trans h.2.2.2.1, Nat.lt_of_lt_of_le h.2.2.2.2 hb.size⟩
theorem XC.via {g : Nat} {S : ByteArray} {E : Int} {w w1 : World} (hb : Below w.heap.size w w1) (h : XC g S E w) : XC g S E w1 := h.below hb
theorem bvia {w0 w w1 : World} (hb : Below w.heap.size w w1) (h : Below w0.heap.size w0 w) : Below w0.heap.size w0 w1 := h.trans (hb.mono h.size)
theorem XC.drew {g : Nat} {S : ByteArray} {E : Int} {w : World} (h : XC g S E w) : XC g S E w.drew := h
theorem XC.alloc {g : Nat} {S : ByteArray} {E : Int} {w : World} (h : XC g S E w) (o : Obj) : XC g S E (w.alloc o) := h.below ((Below.refl _ _).alloc (Nat.le_refl _) _)
/- written anew -/
theorem XC.put {g : Nat} {S : ByteArray} {E : Int} {w : World} (h : XC g S E w) (S' : ByteArray) (E' : Int) : XC g S' E' ((w.setCell ⟨g, 0, none⟩ (.string S')).setCell ⟨g, 1, none⟩ (.int .i64 E')) := by
  obtain ⟨h0, h1, h2, h3, h4⟩ := h
  refine ⟨by simp [go_sem, h0, h1], by simp [go_sem, h0, h1], by rw [frozen_setCell, frozen_setCell]; exact h2, by rw [frozen_setCell, frozen_setCell]; exact h3, by simp; exact h4⟩
/- another one is written -/
theorem XC.other {g q : Nat} {S : ByteArray} {E : Int} {w : World} (h : XC g S E w) (hq : q ≠ g) (S' : ByteArray) (E' : Int) : XC g S E ((w.setCell ⟨q, 0, none⟩ (.string S')).setCell ⟨q, 1, none⟩ (.int .i64 E')) := by
  obtain ⟨h0, h1, h2, h3, h4⟩ := h
  have n : ∀ (i j : Nat), (⟨q, i, none⟩ : Addr) ≠ ⟨g, j, none⟩ := fun i j e => hq (by simpa using congrArg Addr.block e)
  refine ⟨?_, ?_, by rw [frozen_setCell, frozen_setCell]; exact h2, by rw [frozen_setCell, frozen_setCell]; exact h3, by simp; exact h4⟩
  · rw [World.cell?_setCell_other _ _ _ _ (n 1 0), World.cell?_setCell_other _ _ _ _ (n 0 0)]; exact h0
  · rw [World.cell?_setCell_other _ _ _ _ (n 1 1), World.cell?_setCell_other _ _ _ _ (n 0 1)]; exact h1
theorem XC.new {S : ByteArray} {E : Int} {w : World} (t : TypeId) : XC w.heap.size S E (w.alloc (.cells #[.string S, .int .i64 E] t)) :=
  ⟨by simp, by simp, by simp, by simp, by simp⟩
/- what is at work: x and y hold the same -/
def Both (g h : Nat) (S : ByteArray) (E : Int) (w0 w : World) : Prop :=
  XC g S E w ∧ XC h S E w ∧ g ≠ h ∧ w0.heap.size ≤ g ∧ w0.heap.size ≤ h ∧ Below w0.heap.size w0 w
theorem Both.via {g h : Nat} {S : ByteArray} {E : Int} {w0 w w1 : World} (hb : Below w.heap.size w w1) (b : Both g h S E w0 w) : Both g h S E w0 w1 :=
  ⟨b.1.below hb, b.2.1.below hb, b.2.2.1, b.2.2.2.1, b.2.2.2.2.1, b.2.2.2.2.2.trans (hb.mono b.2.2.2.2.2.size)⟩
theorem Both.drew {g h : Nat} {S : ByteArray} {E : Int} {w0 w : World} (b : Both g h S E w0 w) : Both g h S E w0 w.drew := ⟨b.1, b.2.1, b.2.2.1, b.2.2.2.1, b.2.2.2.2.1, b.2.2.2.2.2.drew⟩
theorem Both.alloc {g h : Nat} {S : ByteArray} {E : Int} {w0 w : World} (b : Both g h S E w0 w) (o : Obj) : Both g h S E w0 (w.alloc o) :=
  ⟨b.1.alloc o, b.2.1.alloc o, b.2.2.1, b.2.2.2.1, b.2.2.2.2.1, b.2.2.2.2.2.alloc b.2.2.2.2.2.size o⟩
/- what may be read -/
def RdOk (S : ByteArray) (E : Int) : Prop := S.size ≤ 422212465065984 ∧ -9223372036854775808 ≤ E ∧ E ≤ 9223372036854775807
def Turned (g h : Nat) (w0 w : World) : Prop := ∃ (S : ByteArray) (E : Int), RdOk S E ∧ Both g h S E w0 w
theorem both_put {g h : Nat} {S R : ByteArray} {E F : Int} {w0 w : World} (b : Both g h S E w0 w) :
    Both g h R F w0 ((((w.setCell ⟨g, 0, none⟩ (.string R)).setCell ⟨g, 1, none⟩ (.int .i64 F)).setCell ⟨h, 0, none⟩ (.string R)).setCell ⟨h, 1, none⟩ (.int .i64 F)) := by
  obtain ⟨b1, b2, b3, b4, b5, b6⟩ := b
  refine ⟨(b1.put R F).other (fun e => b3 e.symm) R F, (b2.other b3 R F).put R F, b3, b4, b5, ?_⟩
  exact (((b6.setCell (p := ⟨g, 0, none⟩) b4 _).setCell (p := ⟨g, 1, none⟩) b4 _).setCell (p := ⟨h, 0, none⟩) b5 _).setCell (p := ⟨h, 1, none⟩) b5 _
theorem next_E {S R : ByteArray} {E F : Int} {v : Nat} (h : Vr.next S E = (v, R, F)) (hE : RdOk S E) : RdOk R F := by
  have hb := (Vr.next_bd h).2
  refine ⟨Nat.le_trans hb hE.1, ?_⟩
  by_cases h0 : E = 0
  · subst h0
    rw [Vr.next_zero] at h; simp only [Prod.mk.injEq] at h; obtain ⟨-, -, rfl⟩ := h
    unfold Vr.nE
    generalize hx : Vr.nx 0 0 S.data.toList = x
    obtain ⟨e, v, u⟩ := x
    have := (Vr.nx_used _ _ _ _ _ _ hx).2.2
    show -9223372036854775808 ≤ e ∧ e ≤ 9223372036854775807
    omega
  · rw [Vr.next_err S h0] at h; simp only [Prod.mk.injEq] at h; obtain ⟨-, -, rfl⟩ := h; exact hE.2
theorem bytes_E {S A R : ByteArray} {E F n : Int} (h : Vr.bytes S E n = (A, R, F)) (hE : RdOk S E) : RdOk R F := by
  have hb := (Vr.bytes_bd h).2
  refine ⟨Nat.le_trans hb hE.1, ?_⟩
  by_cases h0 : E = 0
  · subst h0
    by_cases hn : n < 0 ∨ (S.size : Int) < n
    · rw [Vr.bytes_short S hn] at h; simp only [Prod.mk.injEq] at h; obtain ⟨-, -, rfl⟩ := h; decide
    · rw [Vr.bytes_zero S (by omega) (by omega)] at h; simp only [Prod.mk.injEq] at h; obtain ⟨-, -, rfl⟩ := h; decide
  · rw [Vr.bytes_err S n h0] at h; simp only [Prod.mk.injEq] at h; obtain ⟨-, -, rfl⟩ := h; exact hE.2
theorem text_E {S A R : ByteArray} {E F : Int} {m : Nat} (h : Vr.text S E m = (A, R, F)) (hE : RdOk S E) : RdOk R F := by
  generalize hx : Vr.next S E = x
  obtain ⟨v, q, e1⟩ := x
  have hn := next_E hx hE
  by_cases h1 : v ≤ m
  · by_cases h2 : v ≤ q.size
    · rw [Vr.text_ok hx h1 h2] at h; exact bytes_E h hn
    · rw [Vr.text_short hx h1 (by omega)] at h; simp only [Prod.mk.injEq] at h; obtain ⟨-, rfl, rfl⟩ := h; exact ⟨Nat.zero_le _, by decide⟩
  · rw [Vr.text_big hx (by omega)] at h; simp only [Prod.mk.injEq] at h; obtain ⟨-, rfl, rfl⟩ := h; exact ⟨Nat.zero_le _, by decide⟩
theorem pad_E {S R : ByteArray} {E F n : Int} (h : Vr.pad S E n = (R, F)) (hE : RdOk S E) : RdOk R F := by
  generalize hx : Vr.bytes S E n = x
  obtain ⟨a, q, e1⟩ := x
  have hb := bytes_E hx hE
  cases hz : Vr.zeros a.data.toList with
  | true => rw [Vr.pad_ok hx hz] at h; simp only [Prod.mk.injEq] at h; obtain ⟨rfl, rfl⟩ := h; exact hb
  | false => rw [Vr.pad_bad hx hz] at h; simp only [Prod.mk.injEq] at h; obtain ⟨rfl, rfl⟩ := h; exact ⟨Nat.zero_le _, by decide⟩
/- readers' variables, of which is known what they hold -/
def St (L : List (Nat × ByteArray × Int)) (w0 w : World) : Prop := (∀ p ∈ L, w0.heap.size ≤ p.1 ∧ XC p.1 p.2.1 p.2.2 w) ∧ Below w0.heap.size w0 w
theorem St.via {L : List (Nat × ByteArray × Int)} {w0 w w1 : World} (hb : Below w.heap.size w w1) (s : St L w0 w) : St L w0 w1 :=
  ⟨fun p hp => ⟨(s.1 p hp).1, (s.1 p hp).2.below hb⟩, bvia hb s.2⟩
theorem St.drew {L : List (Nat × ByteArray × Int)} {w0 w : World} (s : St L w0 w) : St L w0 w.drew := ⟨s.1, s.2.drew⟩
theorem St.alloc {L : List (Nat × ByteArray × Int)} {w0 w : World} (s : St L w0 w) (o : Obj) : St L w0 (w.alloc o) := s.via ((Below.refl _ _).alloc (Nat.le_refl _) o)
theorem St.fresh {L : List (Nat × ByteArray × Int)} {w0 w : World} (s : St L w0 w) : (∀ p ∈ L, w.heap.size ≠ p.1) ∧ w0.heap.size ≤ w.heap.size :=
  ⟨fun p hp => Nat.ne_of_gt (s.1 p hp).2.2.2.2.2, s.2.size⟩
theorem St.other {L : List (Nat × ByteArray × Int)} {w0 w : World} {q : Nat} {R : ByteArray} {F : Int} (hq : (∀ p ∈ L, q ≠ p.1) ∧ w0.heap.size ≤ q) (s : St L w0 w) : St L w0 ((w.setCell ⟨q, 0, none⟩ (.string R)).setCell ⟨q, 1, none⟩ (.int .i64 F)) :=
  ⟨fun p hp => ⟨(s.1 p hp).1, (s.1 p hp).2.other (hq.1 p hp) R F⟩, (s.2.setCell (p := ⟨q, 0, none⟩) hq.2 _).setCell (p := ⟨q, 1, none⟩) hq.2 _⟩
theorem St.new {L : List (Nat × ByteArray × Int)} {w0 w : World} (s : St L w0 w) (R : ByteArray) (F : Int) (t : TypeId) : St ((w.heap.size, R, F) :: L) w0 (w.alloc (.cells #[.string R, .int .i64 F] t)) := by
  refine ⟨fun p hp => ?_, (s.alloc _).2⟩
  rcases List.mem_cons.1 hp with rfl | hp
  · exact ⟨s.2.size, XC.new t⟩
  · exact (s.alloc _).1 p hp
theorem St.made {L : List (Nat × ByteArray × Int)} {w0 w : World} {q : Nat} {S : ByteArray} {E : Int} (hq : (∀ p ∈ L, q ≠ p.1) ∧ w0.heap.size ≤ q) (s : St L w0 w) (x : XC q S E w) (R : ByteArray) (F : Int) : St ((q, R, F) :: L) w0 ((w.setCell ⟨q, 0, none⟩ (.string R)).setCell ⟨q, 1, none⟩ (.int .i64 F)) := by
  refine ⟨fun p hp => ?_, (s.other hq).2⟩
  rcases List.mem_cons.1 hp with rfl | hp
  · exact ⟨hq.2, x.put R F⟩
  · exact (s.other hq).1 p hp
theorem St.two {g h : Nat} {S : ByteArray} {E : Int} {w0 w : World} (b : Both g h S E w0 w) : St [(g, S, E), (h, S, E)] w0 w := by
  refine ⟨fun p hp => ?_, b.2.2.2.2.2⟩
  rcases List.mem_cons.1 hp with rfl | hp
  · exact ⟨b.2.2.2.1, b.1⟩
  · rcases List.mem_cons.1 hp with rfl | hp
    · exact ⟨b.2.2.2.2.1, b.2.1⟩
    · cases hp
/- what a region reads, carried on -/
theorem set_other {q b d : Nat} {w : World} {v : Value} {i : Nat} {u : Value} (hq : q ≠ b) (h : w.cell? ⟨b, d, none⟩ = some v) : (w.setCell ⟨q, i, none⟩ u).cell? ⟨b, d, none⟩ = some v := by
  rw [World.cell?_setCell_other _ _ _ _ (fun e => hq (by simpa using congrArg Addr.block e))]; exact h
theorem su_call {x b d : Nat} {S : ByteArray} {E nd : Int} {L : List (Nat × ByteArray × Int)} {w0 w w1 : World} (hbl : b < w0.heap.size) (hb : Below w.heap.size w w1) (s : w.cell? ⟨x, 0, none⟩ = some (.string S) ∧ w.cell? ⟨x, 1, none⟩ = some (.int .i64 E) ∧ w.cell? ⟨b, d, none⟩ = some (.int .i64 nd) ∧ St ((x, S, E) :: L) w0 w) : w1.cell? ⟨x, 0, none⟩ = some (.string S) ∧ w1.cell? ⟨x, 1, none⟩ = some (.int .i64 E) ∧ w1.cell? ⟨b, d, none⟩ = some (.int .i64 nd) ∧ St ((x, S, E) :: L) w0 w1 := by
  obtain ⟨s0, s1, s2, s3⟩ := s
  have hxz : x < w.heap.size := (s3.1 _ (List.mem_cons_self ..)).2.2.2.2.2
  have hbz : b < w.heap.size := Nat.lt_of_lt_of_le hbl s3.2.size
  exact ⟨(hb.cell (p := ⟨x, 0, none⟩) hxz).trans s0, (hb.cell (p := ⟨x, 1, none⟩) hxz).trans s1, (hb.cell (p := ⟨b, d, none⟩) hbz).trans s2, s3.via hb⟩
theorem su_alloc {x b d : Nat} {S : ByteArray} {E nd : Int} {L : List (Nat × ByteArray × Int)} {w0 w : World} (hbl : b < w0.heap.size) (o : Obj) (s : w.cell? ⟨x, 0, none⟩ = some (.string S) ∧ w.cell? ⟨x, 1, none⟩ = some (.int .i64 E) ∧ w.cell? ⟨b, d, none⟩ = some (.int .i64 nd) ∧ St ((x, S, E) :: L) w0 w) : (w.alloc o).cell? ⟨x, 0, none⟩ = some (.string S) ∧ (w.alloc o).cell? ⟨x, 1, none⟩ = some (.int .i64 E) ∧ (w.alloc o).cell? ⟨b, d, none⟩ = some (.int .i64 nd) ∧ St ((x, S, E) :: L) w0 (w.alloc o) := su_call hbl ((Below.refl _ _).alloc (Nat.le_refl _) o) s
theorem su_drew {x b d : Nat} {S : ByteArray} {E nd : Int} {L : List (Nat × ByteArray × Int)} {w0 w : World} (s : w.cell? ⟨x, 0, none⟩ = some (.string S) ∧ w.cell? ⟨x, 1, none⟩ = some (.int .i64 E) ∧ w.cell? ⟨b, d, none⟩ = some (.int .i64 nd) ∧ St ((x, S, E) :: L) w0 w) : w.drew.cell? ⟨x, 0, none⟩ = some (.string S) ∧ w.drew.cell? ⟨x, 1, none⟩ = some (.int .i64 E) ∧ w.drew.cell? ⟨b, d, none⟩ = some (.int .i64 nd) ∧ St ((x, S, E) :: L) w0 w.drew := ⟨s.1, s.2.1, s.2.2.1, s.2.2.2.drew⟩
theorem su_other {x b d q : Nat} {S R : ByteArray} {E F nd : Int} {L : List (Nat × ByteArray × Int)} {w0 w : World} (hq : (∀ p ∈ (x, S, E) :: L, q ≠ p.1) ∧ w0.heap.size ≤ q) (hqb : q ≠ b) (s : w.cell? ⟨x, 0, none⟩ = some (.string S) ∧ w.cell? ⟨x, 1, none⟩ = some (.int .i64 E) ∧ w.cell? ⟨b, d, none⟩ = some (.int .i64 nd) ∧ St ((x, S, E) :: L) w0 w) : ((w.setCell ⟨q, 0, none⟩ (.string R)).setCell ⟨q, 1, none⟩ (.int .i64 F)).cell? ⟨x, 0, none⟩ = some (.string S) ∧ ((w.setCell ⟨q, 0, none⟩ (.string R)).setCell ⟨q, 1, none⟩ (.int .i64 F)).cell? ⟨x, 1, none⟩ = some (.int .i64 E) ∧ ((w.setCell ⟨q, 0, none⟩ (.string R)).setCell ⟨q, 1, none⟩ (.int .i64 F)).cell? ⟨b, d, none⟩ = some (.int .i64 nd) ∧ St ((x, S, E) :: L) w0 ((w.setCell ⟨q, 0, none⟩ (.string R)).setCell ⟨q, 1, none⟩ (.int .i64 F)) :=
  ⟨set_other (hq.1 _ (List.mem_cons_self ..)) (set_other (hq.1 _ (List.mem_cons_self ..)) s.1), set_other (hq.1 _ (List.mem_cons_self ..)) (set_other (hq.1 _ (List.mem_cons_self ..)) s.2.1), set_other hqb (set_other hqb s.2.2.1), s.2.2.2.other hq⟩
theorem St.put {L : List (Nat × ByteArray × Int)} {w0 w : World} {x : Nat} {S : ByteArray} {E : Int} (hx : ∀ p ∈ L, x ≠ p.1) (s : St ((x, S, E) :: L) w0 w) (R : ByteArray) (F : Int) : St ((x, R, F) :: L) w0 ((w.setCell ⟨x, 0, none⟩ (.string R)).setCell ⟨x, 1, none⟩ (.int .i64 F)) :=
  St.made ⟨hx, (s.1 (x, S, E) (List.mem_cons_self ..)).1⟩ ⟨fun p hp => s.1 p (List.mem_cons_of_mem _ hp), s.2⟩ (s.1 (x, S, E) (List.mem_cons_self ..)).2 R F
theorem both_of {g h : Nat} {R : ByteArray} {F : Int} {w0 w : World} (hg : g ≠ h ∧ w0.heap.size ≤ g ∧ w0.heap.size ≤ h) (s : St [(h, R, F), (g, R, F)] w0 w) : Both g h R F w0 w :=
  ⟨(s.1 (g, R, F) (by simp)).2, (s.1 (h, R, F) (by simp)).2, hg.1, hg.2.1, hg.2.2, s.2⟩
theorem tb_of {g h : Nat} {S : ByteArray} {E : Int} {w0 w : World} (s : Both g h S E w0 w) : w.cell? ⟨g, 0, none⟩ = some (.string S) ∧ w.cell? ⟨g, 1, none⟩ = some (.int .i64 E) ∧ w.cell? ⟨h, 0, none⟩ = some (.string S) ∧ w.cell? ⟨h, 1, none⟩ = some (.int .i64 E) ∧ Both g h S E w0 w := ⟨s.1.1, s.1.2.1, s.2.1.1, s.2.1.2.1, s⟩
theorem tb_drew {g h : Nat} {S : ByteArray} {E : Int} {w0 w : World} (s : w.cell? ⟨g, 0, none⟩ = some (.string S) ∧ w.cell? ⟨g, 1, none⟩ = some (.int .i64 E) ∧ w.cell? ⟨h, 0, none⟩ = some (.string S) ∧ w.cell? ⟨h, 1, none⟩ = some (.int .i64 E) ∧ Both g h S E w0 w) : w.drew.cell? ⟨g, 0, none⟩ = some (.string S) ∧ w.drew.cell? ⟨g, 1, none⟩ = some (.int .i64 E) ∧ w.drew.cell? ⟨h, 0, none⟩ = some (.string S) ∧ w.drew.cell? ⟨h, 1, none⟩ = some (.int .i64 E) ∧ Both g h S E w0 w.drew := tb_of s.2.2.2.2.drew
theorem tb_call {g h : Nat} {S : ByteArray} {E : Int} {w0 w w1 : World} (hb : Below w.heap.size w w1) (s : w.cell? ⟨g, 0, none⟩ = some (.string S) ∧ w.cell? ⟨g, 1, none⟩ = some (.int .i64 E) ∧ w.cell? ⟨h, 0, none⟩ = some (.string S) ∧ w.cell? ⟨h, 1, none⟩ = some (.int .i64 E) ∧ Both g h S E w0 w) : w1.cell? ⟨g, 0, none⟩ = some (.string S) ∧ w1.cell? ⟨g, 1, none⟩ = some (.int .i64 E) ∧ w1.cell? ⟨h, 0, none⟩ = some (.string S) ∧ w1.cell? ⟨h, 1, none⟩ = some (.int .i64 E) ∧ Both g h S E w0 w1 := tb_of (Both.via hb s.2.2.2.2)
theorem RdOk.len {S : ByteArray} {E : Int} (h : RdOk S E) : S.size ≤ maxLen := by have := h.1; unfold maxLen; omega
end Go.Proofs.Ytahckijanjbagaa
