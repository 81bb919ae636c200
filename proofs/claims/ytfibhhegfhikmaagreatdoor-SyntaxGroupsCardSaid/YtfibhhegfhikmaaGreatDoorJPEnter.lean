import Derived.Test.YtfibhhegfhikmaaGreatDoorJPThr
set_option linter.unusedSimpArgs false
set_option linter.unusedVariables false
/- One more is open. -/
set_option linter.unusedVariables false
namespace Go.Proofs.YtfibhhegfhikmaaGreatDoor
open Go.RowKit
open Sx (Nd)

abbrev entN (gn : Int) : Ent := ⟨.slice none 0 0, .slice none 0 0, Sx.E.new gn⟩
theorem SK.push {base : Nat} {p : Nat → Prop} {w w' : World} {v v' : Value} {L : List Ent} {gn : Int} (h : SK base w p v L) (k : Kp (fun b => v.ownBlock = some b) w w')
    (row : w'.ownsRow base 65 4 v' (L.length + 1) (ecl L ++ ecells (entN gn))) (fv : ∀ g, v'.ownBlock = some g → v.ownBlock = some g ∨ w.heap.size ≤ g) (hps : ∀ b, p b → b < w.heap.size) :
    SK base w' p v' (entN gn :: L) := by
  have hap := h.apart
  rw [List.pairwise_cons] at hap
  have hnp := h.notp
  have hLlt : ∀ u ∈ rws L, ∀ g, u.ownBlock = some g → g < w.heap.size := fun u hu g hg => (rws_lt h hu hg).2
  have hno : ∀ g, (Value.slice none 0 0).ownBlock ≠ some g := fun g e => by simp [Value.ownBlock] at e
  have hmv : ∀ b, Fre base p v L b → b < w.heap.size → Fre base p v' (entN gn :: L) b ∧ w'.heap[b]? = w.heap[b]? := fun b hb hlt => by
    obtain ⟨b1, b2, b3, b4⟩ := hb
    refine ⟨⟨b1, b2, fun e => ?_, fun u hu => ?_⟩, k.block b hlt b3⟩
    · rcases fv b e with e' | e'
      · exact b3 e'
      · omega
    · rw [rws_cons] at hu
      rcases List.mem_cons.1 hu with rfl | hu
      · exact hno b
      · rcases List.mem_cons.1 hu with rfl | hu
        · exact hno b
        · exact b4 u hu
  refine ⟨by rw [List.length_cons, ecl_cons]; exact row, fun y hy => ?_, ?_, ?_⟩
  · rcases List.mem_cons.1 hy with rfl | hy
    · exact ⟨OwnN.nil _ _ _ _, OwnN.nil _ _ _ _⟩
    · have hr := h.rows y hy
      have hm := mem_rws hy
      have hkeep : ∀ u ∈ rws L, ∀ g, u.ownBlock = some g → w'.heap[g]? = w.heap[g]? := fun u hu g hg => k.block g (hLlt u hu g hg) (fun e => hap.1 u hu g e hg)
      exact ⟨hr.1.monoS (hkeep _ hm.1) k.size (fun b h1 h2 _ => hmv b h1 h2), hr.2.monoS (hkeep _ hm.2) k.size (fun b h1 h2 _ => hmv b h1 h2)⟩
  · rw [rws_cons, List.pairwise_cons, List.pairwise_cons, List.pairwise_cons]
    refine ⟨fun u hu g hg e => ?_, fun u hu g hg => absurd hg (hno g), fun u hu g hg => absurd hg (hno g), hap.2⟩
    rcases List.mem_cons.1 hu with rfl | hu
    · exact hno g e
    · rcases List.mem_cons.1 hu with rfl | hu
      · exact hno g e
      · rcases fv g hg with e' | e'
        · exact hap.1 u hu g e' e
        · have := hLlt u hu g e; omega
  · intro u hu y e hpy
    have hyl := hps y hpy
    rcases List.mem_cons.1 hu with rfl | hu
    · rcases fv y e with e' | e'
      · exact hnp _ (by simp) y e' hpy
      · omega
    · rw [rws_cons] at hu
      rcases List.mem_cons.1 hu with rfl | hu
      · exact hno y e
      · rcases List.mem_cons.1 hu with rfl | hu
        · exact hno y e
        · exact hnp u (by simp [hu]) y e hpy
/- behind the append: what the stack is -/
theorem push_end {base B : Nat} {P : Nat → Prop} {w wB w' : World} {v : Value} {L : List Ent} {gn : Int} {g2 cap2 : Nat} (h : SK base w P v L) (hpw : ∀ b, P b → b < w.heap.size) (hk : Kp (fun _ => False) w wB) (hB : w.heap.size ≤ B)
    (row : w'.ownsRow base 65 4 (.slice (some ⟨g2, 0, none⟩) (L.length + 1) cap2) (L.length + 1) (ecl L ++ [.int .i64 gn, .slice none 0 0, .slice none 0 0, .bool false])) (hg : wB.grownBy w' v.ownBlock) (hl : v.ownBlock = some g2 ∨ g2 = B) :
    SK base w' P (.slice (some ⟨g2, 0, none⟩) (L.length + 1) cap2) (entN gn :: L) ∧ Kp (fun b => v.ownBlock = some b) w w' := by
  have hkk : Kp (fun b => v.ownBlock = some b) w w' := (hk.mono (fun _ _ hx => hx.elim)).grown hg (fun k e => .inl e)
  refine ⟨h.push hkk row (fun g e => ?_) hpw, hkk⟩
  have e' : g = g2 := by simp [Value.ownBlock] at e; exact e.symm
  subst e'
  rcases hl with hl | hl
  · exact .inl hl
  · exact .inr (by omega)
def EntPost (base : Nat) (P : Nat → Prop) (p : Nat) (s : ByteArray) (b gg : Int) (v : Value) (L : List Ent) (gn : Int) (t : List Int) (w : World) (e : Ending) (w' : World) : Prop :=
  e = .returned (.tuple #[]) ∧ ∃ v' n2 cap2, v' = .slice n2 (L.length + 1) cap2 ∧ ∃ a2 : Nat, SK base w' P v' (entN gn :: L) ∧ PB w' p s b (a2 : Int) gg v' ∧ Sx.At s t a2 ∧ Kp (fun b => b = p ∨ v.ownBlock = some b) w w'
theorem infoE_parts : ∃ i, Tryz.prog.info? 65 = some i ∧ i.zero = some (.agg #[.int .i64 0, .slice none 0 0, .slice none 0 0, .bool false]) ∧ i.size = 4 ∧ i.bytes = 64 := by
  have h := Tryz.infoE
  cases hi : Tryz.prog.info? 65 with
  | none => rw [hi] at h; cases h
  | some i =>
    rw [hi] at h
    simp only [Option.map_some, Option.some.injEq, Prod.mk.injEq] at h
    exact ⟨i, rfl, h.1, h.2.1, h.2.2⟩
theorem news4 (w : World) (gn : Int) : ∀ j u, [Value.int .i64 gn, .slice none 0 0, .slice none 0 0, .bool false][j]? = some u → (w.alloc (.cells #[.int .i64 gn, .slice none 0 0, .slice none 0 0, .bool false] 65)).cell? ((⟨w.heap.size, 0, none⟩ : Addr).add j) = some u :=
  World.news_of_block (cs := #[.int .i64 gn, .slice none 0 0, .slice none 0 0, .bool false]) (new_block w _)
set_option maxRecDepth 20000 in
set_option maxHeartbeats 4000000 in
theorem enter_non (base : Nat) (P : Nat → Prop) (p : Nat) (s : ByteArray) (b gg : Int) (a : Nat) (v : Value) (L : List Ent) (w : World) (t : List Int) (hp : PB w p s b (a : Int) gg v) (h : SK base w P v L) (hn : L.length ≤ 100000) (hpw : ∀ b, P b → b < w.heap.size) (hPp : P p) (hs : s.size ≤ 200) (ha : Sx.At s (63 :: 58 :: t) a) (hbw : base ≤ w.heap.size) :
    Calls Tryz.prog 79 #[.pointer (some ⟨p, 0, none⟩)] w (EntPost base P p s b gg v L 0 t w) := by
  obtain ⟨i0, hi0, hz0, hz1, hz2⟩ := infoE_parts
  obtain ⟨hat, hnx⟩ := next_yes ⟨#[63, 58]⟩ p s b gg a v w t hp hs (by decide) (by decide) ha
  have HNX := Lib.hid hnx
  have HSK := Lib.hid h
  have HAT := Lib.hid hat
  have HPW := Lib.hid hpw
  have HI := Lib.hid (And.intro hi0 (And.intro hz0 (And.intro hz1 hz2)))
  have hpl := hp.lt
  clear hnx h hat hpw hp ha hi0 hz0 hz1 hz2
  go_enter Tryz.func79, Tryz.ntmps79
  go_wp2_with (first | (go_at_call 76; refine HNX.out.mono ?_; rintro e w1 ⟨rfl, hp1, hk1⟩; have c4 := hp1.c4; have f4 := hp1.fz 4; have hbw1 := Nat.le_trans hbw hk1.size; have HS1 := Lib.hid (HSK.out.kp hk1 (fun c _ e => by rw [e]; exact hPp)); have HP1 := Lib.hid hp1; have HK1 := Lib.hid hk1; clear hp1 hk1) | (at_builtin; refine wpList_append_lies _ rfl _ _ 66 rfl base 65 i0 _ 4 64 Tryz.underlying66 HI.out.1 HI.out.2.1 HI.out.2.2.1 HI.out.2.2.2 rfl (by decide) v L.length (ecl L) rfl (World.ownsRow.alloc HS1.out.row _) ⟨w1.heap.size, 0, none⟩ 1 1 [.int .i64 0, .slice none 0 0, .slice none 0 0, .bool false] rfl rfl (news4 w1 0) (by intro u hu; simp at hu; rcases hu with rfl | rfl | rfl <;> rfl) (by decide) (by unfold maxLen; omega) (by omega) (by simp; omega) (w1.heap.size + 1) (by simp) ?_))
  intro g2 cap2 w2 hown2 hg2 hl2 hlt2
  obtain ⟨hs2, hk2⟩ := push_end HS1.out (fun c hc => Nat.lt_of_lt_of_le (HPW.out c hc) HK1.out.size) ((Kp.refl (fun _ => False) w1).alloc _) (Nat.le_succ _) hown2 hg2 hl2
  have hp2 := HP1.out.kp hk2 (fun e => HS1.out.notp v (List.mem_cons_self ..) p e hPp)
  have d4 := hp2.c4
  have df := hp2.fz 4
  have HS2 := Lib.hid hs2
  have HK2 := Lib.hid hk2
  have HP2 := Lib.hid hp2
  clear hs2 hk2 hp2 hown2 hg2 hl2
  go_wp2_with fail
  go_end0
  exact ⟨rfl, _, _, _, rfl, _, HS2.out.kp ((Kp.refl (Own1 p) w2).set ⟨p, 4, none⟩ (.inl rfl) _) (fun c _ e => by rw [e]; exact hPp), HP2.out.set4 _, HAT.out, (((HK1.out.mono (fun _ _ h => Or.inl h)).trans (HK2.out.mono (fun _ _ h => Or.inr h))).set ⟨p, 4, none⟩ (.inl (.inl rfl)) _)⟩
set_option maxRecDepth 20000 in
set_option maxHeartbeats 4000000 in
theorem enter_cap (base : Nat) (P : Nat → Prop) (p : Nat) (s : ByteArray) (b gg : Int) (a : Nat) (v : Value) (L : List Ent) (w : World) (t : List Int) (hp : PB w p s b (a : Int) gg v) (h : SK base w P v L) (hn : L.length ≤ 100000) (hpw : ∀ b, P b → b < w.heap.size) (hPp : P p) (hs : s.size ≤ 200) (ha : Sx.At s t a) (hno : ∀ u, t ≠ 63 :: 58 :: u) (hg : 0 ≤ gg ∧ gg + 1 ≤ 8) (hbw : base ≤ w.heap.size) :
    Calls Tryz.prog 79 #[.pointer (some ⟨p, 0, none⟩)] w (EntPost base P p s b (gg + 1) v L (gg + 1) t w) := by
  obtain ⟨i0, hi0, hz0, hz1, hz2⟩ := infoE_parts
  have hnx := next_no ⟨#[63, 58]⟩ p s b gg a v w t hp hs (by decide) (by decide) ha hno
  have HNX := Lib.hid hnx
  have HSK := Lib.hid h
  have HAT := Lib.hid ha
  have HPW := Lib.hid hpw
  have HI := Lib.hid (And.intro hi0 (And.intro hz0 (And.intro hz1 hz2)))
  have hpl := hp.lt
  have hw1 : wrap64 (gg + 1) = gg + 1 := IntWalk.wrap64_in _ ⟨by omega, by omega⟩
  have hd8 : decide (gg + 1 > 8) = false := by rw [decide_eq_false_iff_not]; omega
  have hd8' : decide (8 < gg + 1) = false := by rw [decide_eq_false_iff_not]; omega
  clear hnx h hpw hp ha hi0 hz0 hz1 hz2 hno
  go_enter Tryz.func79, Tryz.ntmps79
  go_wp2_with (first | (go_at_call 76; refine HNX.out.mono ?_; rintro e w1 ⟨rfl, hp1, hk1⟩; have c3 := hp1.c3; have f3 := hp1.fz 3; have c4 := hp1.c4; have f4 := hp1.fz 4; have hbw1 := Nat.le_trans hbw hk1.size; have HS1 := Lib.hid (HSK.out.kp hk1 (fun c _ e => by rw [e]; exact hPp)); have HP1 := Lib.hid hp1; have HK1 := Lib.hid hk1; clear hp1 hk1))
  have hp3 := HP1.out.set3 (gg + 1)
  have hk3 := HK1.out.set ⟨p, 3, none⟩ (.inl rfl) (.int .i64 (gg + 1))
  have hs3 := HS1.out.kp ((Kp.refl (Own1 p) w1).set ⟨p, 3, none⟩ (.inl rfl) (.int .i64 (gg + 1))) (fun c _ e => by rw [e]; exact hPp)
  clear HS1 HP1 HK1 c3 f3 c4 f4 hbw1
  generalize w1.setCell ⟨p, 3, none⟩ (.int .i64 (gg + 1)) = w3 at hp3 hk3 hs3 ⊢
  have c3 := hp3.c3
  have c4 := hp3.c4
  have f4 := hp3.fz 4
  have hpl3 := hp3.lt
  have hpn3 : ¬ p = w3.heap.size := Nat.ne_of_lt hpl3
  have hbw3 := Nat.le_trans hbw hk3.size
  have HS3 := Lib.hid hs3
  have HP3 := Lib.hid hp3
  have HK3 := Lib.hid hk3
  clear hs3 hp3 hk3
  go_region_law (first | (refine step_append_lies _ (by rfl) _ _ 66 (by rfl) base 65 i0 _ 4 64 Tryz.underlying66 HI.out.1 HI.out.2.1 HI.out.2.2.1 HI.out.2.2.2 rfl (by decide) v L.length (ecl L) (by rfl) (World.ownsRow.alloc (HS3.out.below ((Below.refl _ w3).drew)).row _) ⟨w3.heap.size, 0, none⟩ 1 1 [.int .i64 (gg + 1), .slice none 0 0, .slice none 0 0, .bool false] (by rfl) rfl (by exact news4 w3.drew (gg + 1)) (by intro u hu; simp at hu; rcases hu with rfl | rfl | rfl <;> rfl) (by decide) (by unfold maxLen; omega) (by omega) (by simp; omega) (w3.heap.size + 1) (by simp) ?_; intro g2 cap2 w2 hown2 hg2 hl2 hlt2; obtain ⟨hs2, hk2⟩ := push_end (w := w3) HS3.out (fun c hc => Nat.lt_of_lt_of_le (HPW.out c hc) HK3.out.size) (((Kp.refl (fun _ => False) w3).drew).alloc _) (Nat.le_succ _) hown2 hg2 hl2; have hp2 := HP3.out.kp hk2 (fun e => HS3.out.notp v (List.mem_cons_self ..) p e hPp); have d4 := hp2.c4; have df := hp2.fz 4; have HS2 := Lib.hid hs2; have HK2 := Lib.hid hk2; have HP2 := Lib.hid hp2; clear hs2 hk2 hp2 hown2 hg2 hl2))
  all_goals
    go_wp2_with fail
    go_end0
    exact ⟨rfl, _, _, _, rfl, _, HS2.out.kp ((Kp.refl (Own1 p) w2).set ⟨p, 4, none⟩ (.inl rfl) _) (fun c _ e => by rw [e]; exact hPp), HP2.out.set4 _, HAT.out, (((HK3.out.mono (fun _ _ h => Or.inl h)).trans (HK2.out.mono (fun _ _ h => Or.inr h))).set ⟨p, 4, none⟩ (.inl (.inl rfl)) _)⟩
set_option maxRecDepth 20000 in
set_option maxHeartbeats 4000000 in
theorem enter_many (p : Nat) (s : ByteArray) (b gg : Int) (a : Nat) (v : Value) (w : World) (t : List Int) (hp : PB w p s b (a : Int) gg v) (hs : s.size ≤ 200) (ha : Sx.At s t a) (hno : ∀ u, t ≠ 63 :: 58 :: u) (hg : 8 < gg + 1 ∧ gg ≤ 8) :
    Calls Tryz.prog 79 #[.pointer (some ⟨p, 0, none⟩)] w fun e w' => e = pan b 3 ∧ Kp (Own1 p) w w' := by
  have hnx := next_no ⟨#[63, 58]⟩ p s b gg a v w t hp hs (by decide) (by decide) ha hno
  have HNX := Lib.hid hnx
  have hw1 : wrap64 (gg + 1) = gg + 1 := IntWalk.wrap64_in _ ⟨by omega, by omega⟩
  have hd8 : decide (gg + 1 > 8) = true := by rw [decide_eq_true_iff]; omega
  have hd8' : decide (8 < gg + 1) = true := by rw [decide_eq_true_iff]; omega
  clear hnx hp ha hno
  go_enter Tryz.func79, Tryz.ntmps79
  go_wp2_with (first | (go_at_call 76; refine HNX.out.mono ?_; rintro e w1 ⟨rfl, hp1, hk1⟩; have c1 := hp1.c1; have c3 := hp1.c3; have f3 := hp1.fz 3; have HP1 := Lib.hid hp1; have HK1 := Lib.hid hk1; clear hp1 hk1))
  unfold pan
  exact ⟨rfl, rfl, HK1.out.set ⟨p, 3, none⟩ (.inl rfl) _⟩
end Go.Proofs.YtfibhhegfhikmaaGreatDoor
