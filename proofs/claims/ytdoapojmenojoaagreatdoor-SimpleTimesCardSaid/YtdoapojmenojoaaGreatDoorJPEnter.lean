import Derived.Test.YtdoapojmenojoaaGreatDoorJPThr
import Derived.Test.YtdoapojmenojoaaGreatDoorJSynM11
import Derived.Deep.RegionLaw
set_option linter.unusedSimpArgs false
set_option linter.unusedVariables false
section
/- One more is open. -/
set_option linter.unusedVariables false
namespace Go.Proofs.YtdoapojmenojoaaGreatDoor
open Go.RowKit
open Sx (Nd)

abbrev entN (gn : Int) : Ent := ⟨.slice none 0 0, .slice none 0 0, Sx.E.new gn⟩
theorem SK.push {base : Nat} {p : Nat → Prop} {w w' : World} {v v' : Value} {L : List Ent} {gn : Int} (h : SK base w p v L) (k : Kp (fun b => v.ownBlock = some b) w w')
    (row : w'.ownsRow base 73 4 v' (L.length + 1) (ecl L ++ ecells (entN gn))) (fv : ∀ g, v'.ownBlock = some g → v.ownBlock = some g ∨ w.heap.size ≤ g) (hps : ∀ b, p b → b < w.heap.size) :
    SK base w' p v' (entN gn :: L) := by
  have hap := h.apart
  rw [List.pairwise_cons] at hap
  have hnp := h.notp
  have hLlt : ∀ u ∈ rws L, ∀ g, u.ownBlock = some g → g < w.heap.size := fun u hu g hg => (rws_lt h hu hg).2
  have hno : ∀ g, (Value.slice none 0 0).ownBlock ≠ some g := fun g e => by simp [Value.ownBlock] at e
  have hmv : ∀ b, Fre base p v L b → b < w.heap.size → Fre base p v' (entN gn :: L) b ∧ w'.heap[b]? = w.heap[b]? := fun b hb hlt => by
    obtain ⟨b1, b2, b3, b4⟩ := hb
    refine ⟨⟨b1, b2, fun e => ?_, fun u hu => ?_⟩, k.block b hlt b3⟩
    · rcases fv b e with e' | e'
      · exact b3 e'
      · omega
    · rw [rws_cons] at hu
      rcases List.mem_cons.1 hu with rfl | hu
      · exact hno b
      · rcases List.mem_cons.1 hu with rfl | hu
        · exact hno b
        · exact b4 u hu
  refine ⟨by rw [List.length_cons, ecl_cons]; exact row, fun y hy => ?_, ?_, ?_⟩
  · rcases List.mem_cons.1 hy with rfl | hy
    · exact ⟨OwnN.nil _ _ _ _, OwnN.nil _ _ _ _⟩
    · have hr := h.rows y hy
      have hm := mem_rws hy
      have hkeep : ∀ u ∈ rws L, ∀ g, u.ownBlock = some g → w'.heap[g]? = w.heap[g]? := fun u hu g hg => k.block g (hLlt u hu g hg) (fun e => hap.1 u hu g e hg)
      exact ⟨hr.1.monoS (hkeep _ hm.1) k.size (fun b h1 h2 _ => hmv b h1 h2), hr.2.monoS (hkeep _ hm.2) k.size (fun b h1 h2 _ => hmv b h1 h2)⟩
  · rw [rws_cons, List.pairwise_cons, List.pairwise_cons, List.pairwise_cons]
    refine ⟨fun u hu g hg e => ?_, fun u hu g hg => absurd hg (hno g), fun u hu g hg => absurd hg (hno g), hap.2⟩
    rcases List.mem_cons.1 hu with rfl | hu
    · exact hno g e
    · rcases List.mem_cons.1 hu with rfl | hu
      · exact hno g e
      · rcases fv g hg with e' | e'
        · exact hap.1 u hu g e' e
        · have := hLlt u hu g e; omega
  · intro u hu y e hpy
    have hyl := hps y hpy
    rcases List.mem_cons.1 hu with rfl | hu
    · rcases fv y e with e' | e'
      · exact hnp _ (by simp) y e' hpy
      · omega
    · rw [rws_cons] at hu
      rcases List.mem_cons.1 hu with rfl | hu
      · exact hno y e
      · rcases List.mem_cons.1 hu with rfl | hu
        · exact hno y e
        · exact hnp u (by simp [hu]) y e hpy
/- behind the append: what the stack is -/
theorem push_end {base B : Nat} {P : Nat → Prop} {w wB w' : World} {v : Value} {L : List Ent} {gn : Int} {g2 cap2 : Nat} (h : SK base w P v L) (hpw : ∀ b, P b → b < w.heap.size) (hk : Kp (fun _ => False) w wB) (hB : w.heap.size ≤ B)
    (row : w'.ownsRow base 73 4 (.slice (some ⟨g2, 0, none⟩) (L.length + 1) cap2) (L.length + 1) (ecl L ++ [.int .i64 gn, .slice none 0 0, .slice none 0 0, .bool false])) (hg : wB.grownBy w' v.ownBlock) (hl : v.ownBlock = some g2 ∨ g2 = B) :
    SK base w' P (.slice (some ⟨g2, 0, none⟩) (L.length + 1) cap2) (entN gn :: L) ∧ Kp (fun b => v.ownBlock = some b) w w' := by
  have hkk : Kp (fun b => v.ownBlock = some b) w w' := (hk.mono (fun _ _ hx => hx.elim)).grown hg (fun k e => .inl e)
  refine ⟨h.push hkk row (fun g e => ?_) hpw, hkk⟩
  have e' : g = g2 := by simp [Value.ownBlock] at e; exact e.symm
  subst e'
  rcases hl with hl | hl
  · exact .inl hl
  · exact .inr (by omega)
def EntPost (base : Nat) (P : Nat → Prop) (p : Nat) (s : ByteArray) (b gg : Int) (v : Value) (L : List Ent) (gn : Int) (t : List Int) (w : World) (e : Ending) (w' : World) : Prop :=
  e = .returned (.tuple #[]) ∧ ∃ v' n2 cap2, v' = .slice n2 (L.length + 1) cap2 ∧ ∃ a2 : Nat, SK base w' P v' (entN gn :: L) ∧ PB w' p s b (a2 : Int) gg v' ∧ Sx.At s t a2 ∧ Kp (fun b => b = p ∨ v.ownBlock = some b) w w'
theorem infoE_parts : ∃ i, Tryz.prog.info? 73 = some i ∧ i.zero = some (.agg #[.int .i64 0, .slice none 0 0, .slice none 0 0, .bool false]) ∧ i.size = 4 ∧ i.bytes = 64 := by
  have h := Tryz.infoE
  cases hi : Tryz.prog.info? 73 with
  | none => rw [hi] at h; cases h
  | some i =>
    rw [hi] at h
    simp only [Option.map_some, Option.some.injEq, Prod.mk.injEq] at h
    exact ⟨i, rfl, h.1, h.2.1, h.2.2⟩
theorem news4 (w : World) (gn : Int) : ∀ j u, [Value.int .i64 gn, .slice none 0 0, .slice none 0 0, .bool false][j]? = some u → (w.alloc (.cells #[.int .i64 gn, .slice none 0 0, .slice none 0 0, .bool false] 73)).cell? ((⟨w.heap.size, 0, none⟩ : Addr).add j) = some u :=
  World.news_of_block (cs := #[.int .i64 gn, .slice none 0 0, .slice none 0 0, .bool false]) (new_block w _)
set_option maxRecDepth 20000 in
set_option maxHeartbeats 4000000 in
theorem enter_non (base : Nat) (P : Nat → Prop) (p : Nat) (s : ByteArray) (b gg : Int) (a : Nat) (v : Value) (L : List Ent) (w : World) (t : List Int) (hp : PB w p s b (a : Int) gg v) (h : SK base w P v L) (hn : L.length ≤ 100000) (hpw : ∀ b, P b → b < w.heap.size) (hPp : P p) (hs : s.size ≤ 200) (ha : Sx.At s (63 :: 58 :: t) a) (hbw : base ≤ w.heap.size) :
    Calls Tryz.prog 103 #[.pointer (some ⟨p, 0, none⟩)] w (EntPost base P p s b gg v L 0 t w) := by
  obtain ⟨i0, hi0, hz0, hz1, hz2⟩ := infoE_parts
  obtain ⟨hat, hnx⟩ := next_yes ⟨#[63, 58]⟩ p s b gg a v w t hp hs (by decide) (by decide) ha
  have HNX := Lib.hid hnx
  have HSK := Lib.hid h
  have HAT := Lib.hid hat
  have HPW := Lib.hid hpw
  have HI := Lib.hid (And.intro hi0 (And.intro hz0 (And.intro hz1 hz2)))
  have hpl := hp.lt
  clear hnx h hat hpw hp ha hi0 hz0 hz1 hz2
  go_enter Tryz.func103, Tryz.ntmps103
  go_wp2_with (first | (go_at_call 100; refine HNX.out.mono ?_; rintro e w1 ⟨rfl, hp1, hk1⟩; have c4 := hp1.c4; have f4 := hp1.fz 4; have hbw1 := Nat.le_trans hbw hk1.size; have HS1 := Lib.hid (HSK.out.kp hk1 (fun c _ e => by rw [e]; exact hPp)); have HP1 := Lib.hid hp1; have HK1 := Lib.hid hk1; clear hp1 hk1) | (at_builtin; refine wpList_append_lies _ rfl _ _ 74 rfl base 73 i0 _ 4 64 Tryz.underlying74 HI.out.1 HI.out.2.1 HI.out.2.2.1 HI.out.2.2.2 rfl (by decide) v L.length (ecl L) rfl (World.ownsRow.alloc HS1.out.row _) ⟨w1.heap.size, 0, none⟩ 1 1 [.int .i64 0, .slice none 0 0, .slice none 0 0, .bool false] rfl rfl (news4 w1 0) (by intro u hu; simp at hu; rcases hu with rfl | rfl | rfl <;> rfl) (by decide) (by unfold maxLen; omega) (by omega) (by simp; omega) (w1.heap.size + 1) (by simp) ?_))
  intro g2 cap2 w2 hown2 hg2 hl2 hlt2
  obtain ⟨hs2, hk2⟩ := push_end HS1.out (fun c hc => Nat.lt_of_lt_of_le (HPW.out c hc) HK1.out.size) ((Kp.refl (fun _ => False) w1).alloc _) (Nat.le_succ _) hown2 hg2 hl2
  have hp2 := HP1.out.kp hk2 (fun e => HS1.out.notp v (List.mem_cons_self ..) p e hPp)
  have d4 := hp2.c4
  have df := hp2.fz 4
  have HS2 := Lib.hid hs2
  have HK2 := Lib.hid hk2
  have HP2 := Lib.hid hp2
  clear hs2 hk2 hp2 hown2 hg2 hl2
  go_wp2_with fail
  go_end0
  exact ⟨rfl, _, _, _, rfl, _, HS2.out.kp ((Kp.refl (Own1 p) w2).set ⟨p, 4, none⟩ (.inl rfl) _) (fun c _ e => by rw [e]; exact hPp), HP2.out.set4 _, HAT.out, (((HK1.out.mono (fun _ _ h => Or.inl h)).trans (HK2.out.mono (fun _ _ h => Or.inr h))).set ⟨p, 4, none⟩ (.inl (.inl rfl)) _)⟩
set_option maxRecDepth 20000 in
set_option maxHeartbeats 4000000 in
theorem enter_cap (base : Nat) (P : Nat → Prop) (p : Nat) (s : ByteArray) (b gg : Int) (a : Nat) (v : Value) (L : List Ent) (w : World) (t : List Int) (hp : PB w p s b (a : Int) gg v) (h : SK base w P v L) (hn : L.length ≤ 100000) (hpw : ∀ b, P b → b < w.heap.size) (hPp : P p) (hs : s.size ≤ 200) (ha : Sx.At s t a) (hno : ∀ u, t ≠ 63 :: 58 :: u) (hg : 0 ≤ gg ∧ gg + 1 ≤ 8) (hbw : base ≤ w.heap.size) :
    Calls Tryz.prog 103 #[.pointer (some ⟨p, 0, none⟩)] w (EntPost base P p s b (gg + 1) v L (gg + 1) t w) := by
  obtain ⟨i0, hi0, hz0, hz1, hz2⟩ := infoE_parts
  have hnx := next_no ⟨#[63, 58]⟩ p s b gg a v w t hp hs (by decide) (by decide) ha hno
  have HNX := Lib.hid hnx
  have HSK := Lib.hid h
  have HAT := Lib.hid ha
  have HPW := Lib.hid hpw
  have HI := Lib.hid (And.intro hi0 (And.intro hz0 (And.intro hz1 hz2)))
  have hpl := hp.lt
  have hw1 : wrap64 (gg + 1) = gg + 1 := IntWalk.wrap64_in _ ⟨by omega, by omega⟩
  have hd8 : decide (gg + 1 > 8) = false := by rw [decide_eq_false_iff_not]; omega
  have hd8' : decide (8 < gg + 1) = false := by rw [decide_eq_false_iff_not]; omega
  clear hnx h hpw hp ha hi0 hz0 hz1 hz2 hno
  go_enter Tryz.func103, Tryz.ntmps103
  go_wp2_with (first | (go_at_call 100; refine HNX.out.mono ?_; rintro e w1 ⟨rfl, hp1, hk1⟩; have c3 := hp1.c3; have f3 := hp1.fz 3; have c4 := hp1.c4; have f4 := hp1.fz 4; have hbw1 := Nat.le_trans hbw hk1.size; have HS1 := Lib.hid (HSK.out.kp hk1 (fun c _ e => by rw [e]; exact hPp)); have HP1 := Lib.hid hp1; have HK1 := Lib.hid hk1; clear hp1 hk1))
  have hp3 := HP1.out.set3 (gg + 1)
  have hk3 := HK1.out.set ⟨p, 3, none⟩ (.inl rfl) (.int .i64 (gg + 1))
  have hs3 := HS1.out.kp ((Kp.refl (Own1 p) w1).set ⟨p, 3, none⟩ (.inl rfl) (.int .i64 (gg + 1))) (fun c _ e => by rw [e]; exact hPp)
  clear HS1 HP1 HK1 c3 f3 c4 f4 hbw1
  generalize w1.setCell ⟨p, 3, none⟩ (.int .i64 (gg + 1)) = w3 at hp3 hk3 hs3 ⊢
  have c3 := hp3.c3
  have c4 := hp3.c4
  have f4 := hp3.fz 4
  have hpl3 := hp3.lt
  have hpn3 : ¬ p = w3.heap.size := Nat.ne_of_lt hpl3
  have hbw3 := Nat.le_trans hbw hk3.size
  have HS3 := Lib.hid hs3
  have HP3 := Lib.hid hp3
  have HK3 := Lib.hid hk3
  clear hs3 hp3 hk3
  go_region_law (first | (refine step_append_lies _ (by rfl) _ _ 74 (by rfl) base 73 i0 _ 4 64 Tryz.underlying74 HI.out.1 HI.out.2.1 HI.out.2.2.1 HI.out.2.2.2 rfl (by decide) v L.length (ecl L) (by rfl) (World.ownsRow.alloc (HS3.out.below ((Below.refl _ w3).drew)).row _) ⟨w3.heap.size, 0, none⟩ 1 1 [.int .i64 (gg + 1), .slice none 0 0, .slice none 0 0, .bool false] (by rfl) rfl (by exact news4 w3.drew (gg + 1)) (by intro u hu; simp at hu; rcases hu with rfl | rfl | rfl <;> rfl) (by decide) (by unfold maxLen; omega) (by omega) (by simp; omega) (w3.heap.size + 1) (by simp) ?_; intro g2 cap2 w2 hown2 hg2 hl2 hlt2; obtain ⟨hs2, hk2⟩ := push_end (w := w3) HS3.out (fun c hc => Nat.lt_of_lt_of_le (HPW.out c hc) HK3.out.size) (((Kp.refl (fun _ => False) w3).drew).alloc _) (Nat.le_succ _) hown2 hg2 hl2; have hp2 := HP3.out.kp hk2 (fun e => HS3.out.notp v (List.mem_cons_self ..) p e hPp); have d4 := hp2.c4; have df := hp2.fz 4; have HS2 := Lib.hid hs2; have HK2 := Lib.hid hk2; have HP2 := Lib.hid hp2; clear hs2 hk2 hp2 hown2 hg2 hl2))
  all_goals
    go_wp2_with fail
    go_end0
    exact ⟨rfl, _, _, _, rfl, _, HS2.out.kp ((Kp.refl (Own1 p) w2).set ⟨p, 4, none⟩ (.inl rfl) _) (fun c _ e => by rw [e]; exact hPp), HP2.out.set4 _, HAT.out, (((HK3.out.mono (fun _ _ h => Or.inl h)).trans (HK2.out.mono (fun _ _ h => Or.inr h))).set ⟨p, 4, none⟩ (.inl (.inl rfl)) _)⟩
set_option maxRecDepth 20000 in
set_option maxHeartbeats 4000000 in
theorem enter_many (p : Nat) (s : ByteArray) (b gg : Int) (a : Nat) (v : Value) (w : World) (t : List Int) (hp : PB w p s b (a : Int) gg v) (hs : s.size ≤ 200) (ha : Sx.At s t a) (hno : ∀ u, t ≠ 63 :: 58 :: u) (hg : 8 < gg + 1 ∧ gg ≤ 8) :
    Calls Tryz.prog 103 #[.pointer (some ⟨p, 0, none⟩)] w fun e w' => e = pan b 3 ∧ Kp (Own1 p) w w' := by
  have hnx := next_no ⟨#[63, 58]⟩ p s b gg a v w t hp hs (by decide) (by decide) ha hno
  have HNX := Lib.hid hnx
  have hw1 : wrap64 (gg + 1) = gg + 1 := IntWalk.wrap64_in _ ⟨by omega, by omega⟩
  have hd8 : decide (gg + 1 > 8) = true := by rw [decide_eq_true_iff]; omega
  have hd8' : decide (8 < gg + 1) = true := by rw [decide_eq_true_iff]; omega
  clear hnx hp ha hno
  go_enter Tryz.func103, Tryz.ntmps103
  go_wp2_with (first | (go_at_call 100; refine HNX.out.mono ?_; rintro e w1 ⟨rfl, hp1, hk1⟩; have c1 := hp1.c1; have c3 := hp1.c3; have f3 := hp1.fz 3; have HP1 := Lib.hid hp1; have HK1 := Lib.hid hk1; clear hp1 hk1))
  unfold pan
  exact ⟨rfl, rfl, HK1.out.set ⟨p, 3, none⟩ (.inl rfl) _⟩
end Go.Proofs.YtdoapojmenojoaaGreatDoor
end

section
/- The inner expression ends: it is an atom of the one about it. -/
set_option linter.unusedVariables false
namespace Go.Proofs.YtdoapojmenojoaaGreatDoor
open Go.RowKit
open Sx (Nd)

/- the blocks that the parser may write -/
abbrev Xp (base : Nat) (P : Nat → Prop) (p : Nat) : Nat → Prop := fun b => base ≤ b ∧ (P b → b = p)
theorem Fre.weak {base : Nat} {p p' : Nat → Prop} {v : Value} {L : List Ent} {b : Nat} (h : Fre base p' v L b) (hp : ∀ b, p b → p' b) : Fre base p v L b := ⟨h.1, fun e => h.2.1 (hp b e), h.2.2⟩
theorem SK.weak {base : Nat} {w : World} {p p' : Nat → Prop} {v : Value} {L : List Ent} (h : SK base w p' v L) (hp : ∀ b, p b → p' b) : SK base w p v L := by
  refine ⟨h.row, fun x hx => ?_, h.apart, fun u hu g hg e => h.notp u hu g hg (hp g e)⟩
  have hr := h.rows x hx
  exact ⟨hr.1.monoS (fun _ _ => rfl) (Nat.le_refl _) (fun b hb _ _ => ⟨hb.weak hp, rfl⟩), hr.2.monoS (fun _ _ => rfl) (Nat.le_refl _) (fun b hb _ _ => ⟨hb.weak hp, rfl⟩)⟩
theorem SK.upx {base : Nat} {w : World} {p : Nat → Prop} {v : Value} {x : Ent} {L : List Ent} (h : SK base w p v (x :: L)) {b : Nat} (hb : UpX v x b) : base ≤ b ∧ ¬ p b ∧ b < w.heap.size := by
  have hr := h.rows x (List.mem_cons_self ..)
  have hn := h.notp
  rw [rws_cons] at hn
  rcases hb with e | e | e
  · have := h.row.lt b e; exact ⟨this.1, hn v (by simp) b e, this.2⟩
  · have := ownN_lt hr.1 e; exact ⟨this.1, hn x.va (by simp) b e, this.2⟩
  · have := ownN_lt hr.2 e; exact ⟨this.1, hn x.vl (by simp) b e, this.2⟩
theorem SK.newF {base : Nat} {w : World} {p : Nat → Prop} {v : Value} {L : List Ent} (h : SK base w p v L) (hpw : ∀ b, p b → b < w.heap.size) (hbw : base ≤ w.heap.size) {b : Nat} (hb : w.heap.size ≤ b) : Fre base p v L b := by
  refine ⟨by omega, fun e => by have := hpw b e; omega, fun e => by have := (h.row.lt b e).2; omega, fun u hu e => ?_⟩
  have := (rws_lt h hu e).2
  omega
theorem SKp.gcell {base : Nat} {w : World} {p : Nat → Prop} {g cap : Nat} {L : List Ent} {gn : Int} (h : SKp base w p (.slice (some ⟨g, 0, none⟩) (L.length + 1) cap) L gn) : w.cell? ⟨g, L.length * 4, none⟩ = some (.int .i64 gn) := by
  obtain ⟨x, hx, hr⟩ := h.row
  have := hr.cellAt (L.length * 4) (by omega)
  rw [this, List.getElem?_append_right (by rw [ecl_len]; omega), ecl_len, Nat.sub_self]
  simp [ecells, hx]
theorem nodeS_grp {S : Nat → Prop} {w : World} {n : Nd} {q : Option Addr} {cap : Nat} {gn : Int} (hg : 0 ≤ gn ∧ gn ≤ 8) (h : KidsS S w q 0 [n]) : NodeS S w 9 (.slice none 0 0) 0 0 false gn (.slice q 1 cap) (.mk 9 [] 0 0 false gn [n]) := by
  rw [NodeS]
  exact ⟨rfl, rfl, rfl, rfl, rfl, ⟨by decide, by decide⟩, ⟨by decide, by decide⟩, ⟨by decide, by decide⟩, ⟨by omega, by omega⟩, by simp, (fun k r hr => by simp at hr), by simp, ⟨none, 0, rfl, rows_nil _ _ _⟩, q, cap, rfl, h⟩
/- what stands behind it -/
def LeavePost (base : Nat) (P : Nat → Prop) (p : Nat) (s : ByteArray) (b : Int) (a : Nat) (gg : Int) (x x' : Ent) (L : List Ent) (w : World) (e : Ending) (w' : World) : Prop :=
  e = .returned (.tuple #[]) ∧ ∃ v' vl', SK base w' P v' (⟨x'.va, vl', x'.e.add (Sx.wrapG x.e.g x.e.thr)⟩ :: L) ∧ PB w' p s b (a : Int) gg v' ∧ Kp (Xp base P p) w w'
/- what stands behind the atom's making, ahead of its adding -/
structure LvZ (base : Nat) (P : Nat → Prop) (p : Nat) (s : ByteArray) (b a gg : Int) (v : Value) (x' : Ent) (L : List Ent) (B : Nat) (k : Int) (ka : Option Addr) (ki kj : Nat) (mn mx : Int) (lz : Bool) (gn : Int) (kb : Option Addr) (ks kt : Nat) (nd : Nd) (w wc : World) : Prop where
  sk : SK base wc (fun b => P b ∨ b = B) v (x' :: L)
  pb : PB wc p s b a gg v
  nd : NodeS (fun b => Fre base (fun b => P b ∨ b = B) v (x' :: L) b ∧ b < wc.heap.size) wc k (.slice ka ki kj) mn mx lz gn (.slice kb ks kt) nd
  box : Seven wc B 0 k (.slice ka ki kj) mn mx lz gn (.slice kb ks kt)
  kp : Kp (Xp base P p) w wc
  lt : ∀ b, (P b ∨ b = B) → b < wc.heap.size
theorem LvZ.drewN {base : Nat} {P : Nat → Prop} {p : Nat} {s : ByteArray} {b a gg : Int} {v : Value} {x' : Ent} {L : List Ent} {B : Nat} {k : Int} {ka : Option Addr} {ki kj : Nat} {mn mx : Int} {lz : Bool} {gn : Int} {kb : Option Addr} {ks kt : Nat} {nd : Nd} {w wc : World} (h : LvZ base P p s b a gg v x' L B k ka ki kj mn mx lz gn kb ks kt nd w wc) (m : Nat) : LvZ base P p s b a gg v x' L B k ka ki kj mn mx lz gn kb ks kt nd w (wc.drewN m) :=
  ⟨h.sk.below (bdrewN (Below.refl _ wc)), h.pb.drewN m, (by refine NodeS.mono ?_ h.nd; intro b hb; exact ⟨hb, rfl⟩), h.box.block rfl, h.kp.drewN m, h.lt⟩
theorem LvZ.drew {base : Nat} {P : Nat → Prop} {p : Nat} {s : ByteArray} {b a gg : Int} {v : Value} {x' : Ent} {L : List Ent} {B : Nat} {k : Int} {ka : Option Addr} {ki kj : Nat} {mn mx : Int} {lz : Bool} {gn : Int} {kb : Option Addr} {ks kt : Nat} {nd : Nd} {w wc : World} (h : LvZ base P p s b a gg v x' L B k ka ki kj mn mx lz gn kb ks kt nd w wc) : LvZ base P p s b a gg v x' L B k ka ki kj mn mx lz gn kb ks kt nd w wc.drew :=
  ⟨h.sk.below ((Below.refl _ wc).drew), h.pb.drew, (by refine NodeS.mono ?_ h.nd; intro b hb; exact ⟨hb, rfl⟩), h.box.block rfl, h.kp.drew, h.lt⟩
theorem LvZ.add {base : Nat} {P : Nat → Prop} {p : Nat} {s : ByteArray} {b a gg : Int} {g cap : Nat} {x' : Ent} {L : List Ent} {B : Nat} {k : Int} {ka : Option Addr} {ki kj : Nat} {mn mx : Int} {lz : Bool} {gn : Int} {kb : Option Addr} {ks kt : Nat} {nd : Nd} {w wc : World} (h : LvZ base P p s b a gg (.slice (some ⟨g, 0, none⟩) (L.length + 1) cap) x' L B k ka ki kj mn mx lz gn kb ks kt nd w wc) (hn : L.length ≤ 1000) (hla' : x'.e.la.length ≤ 1000) (hbw : base ≤ w.heap.size) (hPp : P p) :
    Calls Tryz.prog 107 #[.pointer (some ⟨g, L.length * 4, none⟩), .agg #[.int .i64 k, .slice ka ki kj, .int .i64 mn, .int .i64 mx, .bool lz, .int .i64 gn, .slice kb ks kt]] wc fun e w' => e = .returned (.tuple #[]) ∧ ∃ vl', SK base w' P (.slice (some ⟨g, 0, none⟩) (L.length + 1) cap) (⟨x'.va, vl', x'.e.add nd⟩ :: L) ∧ PB w' p s b a gg (.slice (some ⟨g, 0, none⟩) (L.length + 1) cap) ∧ Kp (Xp base P p) w w' := by
  refine (add_any base _ _ g cap x' L wc k mn mx gn lz ka kb ki kj ks kt nd rfl h.sk (by omega) (by omega) (Nat.le_trans hbw h.kp.size) h.lt h.nd).mono ?_
  rintro e w' ⟨rfl, vl', hs, hk⟩
  refine ⟨rfl, vl', hs.weak (fun b hb => .inl hb), h.pb.kp hk (fun hx => (h.sk.upx hx).2.1 (.inl hPp)), h.kp.after hk (fun i hi hx => ⟨(h.sk.upx hx).1, fun hP => absurd (.inl hP) (h.sk.upx hx).2.1⟩)⟩
theorem lvz_plain {base : Nat} {P : Nat → Prop} {p : Nat} {s : ByteArray} {b a gg : Int} {v0 v1 : Value} {x' : Ent} {L : List Ent} {k : Int} {ka : Option Addr} {ki kj : Nat} {mn mx : Int} {lz : Bool} {gn : Int} {kb : Option Addr} {ks kt : Nat} {nd : Nd} {w w1 : World} (hs : SK base w1 P v1 (x' :: L)) (hp : PB w1 p s b a gg v0)
    (hn : NodeS (fun b => Fre base P v0 (x' :: L) b ∧ b < w1.heap.size) w1 k (.slice ka ki kj) mn mx lz gn (.slice kb ks kt) nd) (hv : v1.ownBlock = v0.ownBlock) (hk : Kp (Xp base P p) w w1) (hbp : base ≤ p) (hPp : P p) (hpw : ∀ b, P b → b < w1.heap.size) :
    LvZ base P p s b a gg v1 x' L w1.heap.size k ka ki kj mn mx lz gn kb ks kt nd w ((w1.setCell ⟨p, 4, none⟩ v1).alloc (.cells #[.int .i64 k, .slice ka ki kj, .int .i64 mn, .int .i64 mx, .bool lz, .int .i64 gn, .slice kb ks kt] 29)) := by
  have hz : (w1.setCell ⟨p, 4, none⟩ v1).heap.size = w1.heap.size := by simp [World.setCell]
  have hbx := Seven.box (w1.setCell ⟨p, 4, none⟩ v1) k (.slice ka ki kj) mn mx lz gn (.slice kb ks kt) 29
  have hsk := (hs.kp ((Kp.refl (Own1 p) w1).set ⟨p, 4, none⟩ (.inl rfl) v1) (fun c _ e => by rw [e]; exact hPp)).excl (.cells #[.int .i64 k, .slice ka ki kj, .int .i64 mn, .int .i64 mx, .bool lz, .int .i64 gn, .slice kb ks kt] 29)
  rw [hz] at hsk hbx
  refine ⟨hsk, (hp.set4 _).alloc _, ?_, hbx, (hk.set ⟨p, 4, none⟩ (.inl ⟨hbp, fun _ => rfl⟩) _).alloc _, ?_⟩
  · refine NodeS.mono ?_ hn
    intro c hc
    refine ⟨⟨⟨hc.1.1, ?_, by rw [hv]; exact hc.1.2.2.1, hc.1.2.2.2⟩, ?_⟩, ?_⟩
    · rintro (e | e)
      · exact hc.1.2.1 e
      · have := hc.2; omega
    · rw [World.size_alloc, hz]; have := hc.2; omega
    · have hcp : c ≠ p := fun e => hc.1.2.1 (by rw [e]; exact hPp)
      exact (Below.heap_alloc _ _ _ (by rw [hz]; exact hc.2)).trans (Below.heap_setCell _ _ _ _ hcp)
  · intro c hc
    rw [World.size_alloc, hz]
    rcases hc with hc | hc
    · have := hpw c hc; omega
    · omega
theorem lvz_grp {base : Nat} {P : Nat → Prop} {p : Nat} {s : ByteArray} {b a gg : Int} {v0 v1 : Value} {x' : Ent} {L : List Ent} {k : Int} {ka : Option Addr} {ki kj : Nat} {mn mx : Int} {lz : Bool} {gn g9 : Int} {kb : Option Addr} {ks kt : Nat} {nd : Nd} {w w1 : World} (hs : SK base w1 P v1 (x' :: L)) (hp : PB w1 p s b a gg v0)
    (hn : NodeS (fun b => Fre base P v0 (x' :: L) b ∧ b < w1.heap.size) w1 k (.slice ka ki kj) mn mx lz gn (.slice kb ks kt) nd) (hv : v1.ownBlock = v0.ownBlock) (hk : Kp (Xp base P p) w w1) (hbp : base ≤ p) (hbw : base ≤ w1.heap.size) (hPp : P p) (hpw : ∀ b, P b → b < w1.heap.size) (h9 : 0 ≤ g9 ∧ g9 ≤ 8) :
    LvZ base P p s b a gg v1 x' L w1.heap.size 9 none 0 0 0 0 false g9 (some ⟨w1.heap.size + 1, 0, none⟩) 1 1 (.mk 9 [] 0 0 false g9 [nd]) w (((w1.setCell ⟨p, 4, none⟩ v1).alloc (.cells #[.int .i64 9, .slice none 0 0, .int .i64 0, .int .i64 0, .bool false, .int .i64 g9, .slice (some ⟨w1.heap.size + 1, 0, none⟩) 1 1] 29)).alloc (.cells #[.int .i64 k, .slice ka ki kj, .int .i64 mn, .int .i64 mx, .bool lz, .int .i64 gn, .slice kb ks kt] 29)) := by
  have hz : (w1.setCell ⟨p, 4, none⟩ v1).heap.size = w1.heap.size := by simp [World.setCell]
  obtain ⟨W1, hW1⟩ : ∃ W1, W1 = (w1.setCell ⟨p, 4, none⟩ v1).alloc (.cells #[.int .i64 9, .slice none 0 0, .int .i64 0, .int .i64 0, .bool false, .int .i64 g9, .slice (some ⟨w1.heap.size + 1, 0, none⟩) 1 1] 29) := ⟨_, rfl⟩
  have hz1 : W1.heap.size = w1.heap.size + 1 := by rw [hW1, World.size_alloc, hz]
  have hbx := Seven.box (w1.setCell ⟨p, 4, none⟩ v1) 9 (.slice none 0 0) 0 0 false g9 (.slice (some ⟨w1.heap.size + 1, 0, none⟩) 1 1) 29
  have hsk := (hs.kp ((Kp.refl (Own1 p) w1).set ⟨p, 4, none⟩ (.inl rfl) v1) (fun c _ e => by rw [e]; exact hPp)).excl (.cells #[.int .i64 9, .slice none 0 0, .int .i64 0, .int .i64 0, .bool false, .int .i64 g9, .slice (some ⟨w1.heap.size + 1, 0, none⟩) 1 1] 29)
  have hpb := (hp.set4 v1).alloc (.cells #[.int .i64 9, .slice none 0 0, .int .i64 0, .int .i64 0, .bool false, .int .i64 g9, .slice (some ⟨w1.heap.size + 1, 0, none⟩) 1 1] 29)
  have hkk := (hk.set ⟨p, 4, none⟩ (.inl ⟨hbp, fun _ => rfl⟩) v1).alloc (.cells #[.int .i64 9, .slice none 0 0, .int .i64 0, .int .i64 0, .bool false, .int .i64 g9, .slice (some ⟨w1.heap.size + 1, 0, none⟩) 1 1] 29)
  have hold : ∀ c, c < w1.heap.size → c ≠ p → W1.heap[c]? = w1.heap[c]? := fun c hc hcp => by rw [hW1]; exact (Below.heap_alloc _ _ _ (by rw [hz]; exact hc)).trans (Below.heap_setCell _ _ _ _ hcp)
  rw [hz] at hsk hbx
  rw [← hW1] at hsk hbx hpb hkk ⊢
  clear hW1
  have hlt : ∀ c, (P c ∨ c = w1.heap.size) → c < W1.heap.size := fun c hc => by
    rw [hz1]
    rcases hc with hc | hc
    · have := hpw c hc; omega
    · omega
  have hbx2 := Seven.box W1 k (.slice ka ki kj) mn mx lz gn (.slice kb ks kt) 29
  rw [hz1] at hbx2
  refine ⟨hsk.below (below_new W1 _), hpb.alloc _, nodeS_grp h9 (one_kid ?_ hbx2 ?_), hbx.block (Below.heap_alloc _ _ _ (by rw [hz1]; omega)), hkk.alloc _, ?_⟩
  · exact ⟨hsk.newF hlt (by rw [hz1]; omega) (by rw [hz1]; exact Nat.le_refl _), by rw [World.size_alloc, hz1]; omega⟩
  · refine NodeS.mono ?_ hn
    intro c hc
    refine ⟨⟨⟨hc.1.1, ?_, by rw [hv]; exact hc.1.2.2.1, hc.1.2.2.2⟩, ?_⟩, ?_⟩
    · rintro (e | e)
      · exact hc.1.2.1 e
      · have := hc.2; omega
    · rw [World.size_alloc, hz1]; have := hc.2; omega
    · have hcp : c ≠ p := fun e => hc.1.2.1 (by rw [e]; exact hPp)
      exact (Below.heap_alloc _ _ _ (by rw [hz1]; have := hc.2; omega)).trans (hold c hc.2 hcp)
  · intro c hc
    rw [World.size_alloc]; have := hlt c hc; omega
set_option maxRecDepth 20000 in
set_option maxHeartbeats 4000000 in
theorem leave_bad (base : Nat) (P : Nat → Prop) (p : Nat) (s : ByteArray) (b gg : Int) (a : Int) (v : Value) (x : Ent) (w : World) (hp : PB w p s b a gg v) (h : SK base w P v [x]) :
    Calls Tryz.prog 104 #[.pointer (some ⟨p, 0, none⟩)] w fun e w' => e = pan b 2 ∧ Kp (Own1 p) w w' := by
  obtain ⟨g, cap, rfl, _⟩ := h.inner
  have c4 := hp.c4
  have HP := Lib.hid hp
  clear h hp
  go_enter Tryz.func104, Tryz.ntmps104
  go_wp2_with (go_at_call 71; refine (wrong_any p s b a gg _ _ HP.out).mono ?_; rintro e w2 ⟨rfl, rfl⟩; unfold pan)
  exact ⟨rfl, rfl, Kp.refl _ w⟩
set_option maxRecDepth 20000 in
set_option maxHeartbeats 4000000 in
theorem leave_ok (base : Nat) (P : Nat → Prop) (p : Nat) (s : ByteArray) (b gg : Int) (a : Nat) (v : Value) (x x' : Ent) (L : List Ent) (w : World) (hp : PB w p s b (a : Int) gg v) (h : SK base w P v (x :: x' :: L)) (hn : L.length ≤ 1000) (hpw : ∀ b, P b → b < w.heap.size) (hPp : P p) (hbp : base ≤ p) (hbw : base ≤ w.heap.size) (hg : 0 ≤ x.e.g ∧ x.e.g ≤ 8)
    (hah : x.e.ah.length ≤ 1000) (hla : x.e.la.length ≤ 1000) (hfl : (Sx.flat6 x.e.la).length ≤ 1000) (hnk : ∀ n ∈ x.e.la, n.k = 6 → n.kids ≠ []) (hf7 : (Sx.flat7 (x.e.ah ++ [Sx.sequence x.e.la])).length ≤ 1000) (hn7 : ∀ n ∈ x.e.ah ++ [Sx.sequence x.e.la], n.k = 7 → n.kids ≠ []) (hla' : x'.e.la.length ≤ 1000) :
    Calls Tryz.prog 104 #[.pointer (some ⟨p, 0, none⟩)] w (LeavePost base P p s b a gg x x' L w) := by
  obtain ⟨g, cap, hv, hbg, hgl, hgp, hgc, c0, c1, c2, c3, cf⟩ := h.inner
  simp only [List.length_cons] at hv c0 c1 c2 c3 hgc
  subst hv
  have HT := Lib.hid (through_any base P _ g cap x (x' :: L) w rfl h (by simp; omega) (by omega) hbw hpw (by omega) (by omega) hnk (by omega) hn7)
  have HUX := Lib.hid (fun b hb => h.upx (b := b) hb)
  have c4 := hp.c4
  have HP := Lib.hid hp
  have hgnp : g ≠ p := fun e => hgp (by rw [e]; exact hPp)
  have hL2 : ((L.length : Int) + 1 + 1 == 0) = false := by rw [beq_eq_false_iff_ne]; omega
  clear h hp hah hla hfl hnk hf7 hn7
  go_enter Tryz.func104, Tryz.ntmps104
  rcases (show x.e.g = 0 ∨ 0 < x.e.g by omega) with hg0 | hg0
  · have hd0 : decide (x.e.g > 0) = false := by rw [decide_eq_false_iff_not]; omega
    go_wp2_with (go_at_call 73; refine HT.out.mono ?_; rintro e w1 ⟨u, rfl, ⟨k, vc, mn, mx, lz, gn, vl, rfl, hnd⟩, hsk, hk⟩; obtain ⟨ka, ki, kj, kb, ks, kt, rfl, rfl⟩ := nodeS_shape hnd; have gc := hsk.gcell; simp only [List.length_cons] at gc; have hp1 := HP.out.kp hk (fun hb => (HUX.out p (hb.elim .inl (fun hb => .inr (.inl hb)))).2.1 hPp); have d4 := hp1.c4; have df := hp1.fz 4; have hpl1 := hp1.lt; have hgl1 := Nat.lt_of_lt_of_le hgl hk.size; have hpn1 : ¬ p = w1.heap.size := Nat.ne_of_lt hpl1; have hgn1 : ¬ g = w1.heap.size := Nat.ne_of_lt hgl1; have HS1 := Lib.hid hsk.pop; have HK1 := Lib.hid hk; have HP1 := Lib.hid hp1; have HN1 := Lib.hid hnd; clear hsk hk hp1 hnd; unfold ndv)
    have HG := Lib.hid (show Sx.wrapG x.e.g x.e.thr = x.e.thr by unfold Sx.wrapG; rw [if_neg (by omega)])
    have HI := Lib.hid (fun wc (hpc : PB wc p s b (a : Int) gg (.slice (some ⟨g, 0, none⟩) (L.length + 1) cap)) => inner_any base p s b (a : Int) gg g L.length cap wc hpc (by omega))
    have HZ := Lib.hid (lvz_plain (w := w) HS1.out HP1.out HN1.out rfl (HK1.out.mono (fun c _ hc => (fun hu => ⟨(HUX.out c hu).1, fun hP => absurd hP (HUX.out c hu).2.1⟩) (hc.elim .inl (fun h => .inr (.inl h))))) hbp hPp (fun c hc => Nat.lt_of_lt_of_le (hpw c hc) HK1.out.size))
    simp only [List.length_cons] at HZ
    obtain ⟨B, hB⟩ : ∃ B, B = w1.heap.size := ⟨_, rfl⟩
    have hpz := HZ.out.pb.lt
    rw [← hB] at HZ ⊢
    clear HS1 HP1 HN1 HK1 d4 df gc HT HUX HP
    generalize ((w1.setCell ⟨p, 4, none⟩ (.slice (some ⟨g, 0, none⟩) (L.length + 1) cap)).alloc (.cells #[.int .i64 k, .slice ka ki kj, .int .i64 mn, .int .i64 mx, .bool lz, .int .i64 gn, .slice kb ks kt] 29)) = W at HZ ⊢
    clear hB
    obtain ⟨y0, y1, y2, y3, y4, y5, y6⟩ := HZ.out.box
    simp only [Nat.zero_add] at y0 y1 y2 y3 y4 y5 y6
    go_region_law (first | (go_simp; go_at_call 72; refine (HI.out _ HZ.out.drew.pb).mono ?_; rintro e w2 ⟨rfl, m, rfl⟩) | (go_simp; go_at_call 107; refine ((HZ.out.drewN _).add hn hla' hbw hPp).mono ?_; rintro e w3 ⟨rfl, vl3, hs3, hp3, hk3⟩; have HF := Lib.hid (And.intro hs3 (And.intro hp3 hk3)); clear hs3 hp3 hk3))
    all_goals
      go_wp2_with fail
      go_end0
      refine ⟨rfl, _, vl3, ?_, HF.out.2.1, HF.out.2.2⟩
      rw [HG.out]
      exact HF.out.1
  · have hd0 : decide (x.e.g > 0) = true := by rw [decide_eq_true_iff]; omega
    go_wp2_with (go_at_call 73; refine HT.out.mono ?_; rintro e w1 ⟨u, rfl, ⟨k, vc, mn, mx, lz, gn, vl, rfl, hnd⟩, hsk, hk⟩; obtain ⟨ka, ki, kj, kb, ks, kt, rfl, rfl⟩ := nodeS_shape hnd; have gc := hsk.gcell; simp only [List.length_cons] at gc; have hp1 := HP.out.kp hk (fun hb => (HUX.out p (hb.elim .inl (fun hb => .inr (.inl hb)))).2.1 hPp); have d4 := hp1.c4; have df := hp1.fz 4; have hpl1 := hp1.lt; have hgl1 := Nat.lt_of_lt_of_le hgl hk.size; have hpn1 : ¬ p = w1.heap.size := Nat.ne_of_lt hpl1; have hgn1 : ¬ g = w1.heap.size := Nat.ne_of_lt hgl1; have HS1 := Lib.hid hsk.pop; have HK1 := Lib.hid hk; have HP1 := Lib.hid hp1; have HN1 := Lib.hid hnd; clear hsk hk hp1 hnd; unfold ndv)
    have HG := Lib.hid (show Sx.wrapG x.e.g x.e.thr = .mk 9 [] 0 0 false x.e.g [x.e.thr] by unfold Sx.wrapG; rw [if_pos (by omega)])
    have HI := Lib.hid (fun wc (hpc : PB wc p s b (a : Int) gg (.slice (some ⟨g, 0, none⟩) (L.length + 1) cap)) => inner_any base p s b (a : Int) gg g L.length cap wc hpc (by omega))
    have HZ := Lib.hid (lvz_grp (w := w) (g9 := x.e.g) HS1.out HP1.out HN1.out rfl (HK1.out.mono (fun c _ hc => (fun hu => ⟨(HUX.out c hu).1, fun hP => absurd hP (HUX.out c hu).2.1⟩) (hc.elim .inl (fun h => .inr (.inl h))))) hbp (Nat.le_trans hbw HK1.out.size) hPp (fun c hc => Nat.lt_of_lt_of_le (hpw c hc) HK1.out.size) hg)
    simp only [List.length_cons] at HZ
    obtain ⟨B, hB⟩ : ∃ B, B = w1.heap.size := ⟨_, rfl⟩
    have hpz := HZ.out.pb.lt
    rw [← hB] at HZ ⊢
    clear HS1 HP1 HN1 HK1 d4 df gc HT HUX HP
    generalize (((w1.setCell ⟨p, 4, none⟩ (.slice (some ⟨g, 0, none⟩) (L.length + 1) cap)).alloc (.cells #[.int .i64 9, .slice none 0 0, .int .i64 0, .int .i64 0, .bool false, .int .i64 x.e.g, .slice (some ⟨B + 1, 0, none⟩) 1 1] 29)).alloc (.cells #[.int .i64 k, .slice ka ki kj, .int .i64 mn, .int .i64 mx, .bool lz, .int .i64 gn, .slice kb ks kt] 29)) = W at HZ ⊢
    clear hB
    obtain ⟨y0, y1, y2, y3, y4, y5, y6⟩ := HZ.out.box
    simp only [Nat.zero_add] at y0 y1 y2 y3 y4 y5 y6
    go_region_law (first | (go_simp; go_at_call 72; refine (HI.out _ HZ.out.drew.pb).mono ?_; rintro e w2 ⟨rfl, m, rfl⟩) | (go_simp; go_at_call 107; refine ((HZ.out.drewN _).add hn hla' hbw hPp).mono ?_; rintro e w3 ⟨rfl, vl3, hs3, hp3, hk3⟩; have HF := Lib.hid (And.intro hs3 (And.intro hp3 hk3)); clear hs3 hp3 hk3))
    all_goals
      go_wp2_with fail
      go_end0
      refine ⟨rfl, _, vl3, ?_, HF.out.2.1, HF.out.2.2⟩
      rw [HG.out]
      exact HF.out.1
end Go.Proofs.YtdoapojmenojoaaGreatDoor
end
