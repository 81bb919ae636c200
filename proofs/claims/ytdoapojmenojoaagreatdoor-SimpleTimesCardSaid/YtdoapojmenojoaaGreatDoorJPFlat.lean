import Derived.Test.YtdoapojmenojoaaGreatDoorJPar
import Derived.BigQuiet
import Derived.Deep.DeepCutAuto
set_option linter.unusedSimpArgs false
set_option linter.unusedVariables false
section
/- Rows of nodes, made one row. -/
set_option linter.unusedVariables false
namespace Go.Proofs.YtdoapojmenojoaaGreatDoor
open Go.RowKit
open Sx (Nd)

theorem Tryz.infoSN : (Tryz.prog.info? 29).map (fun i => (i.zero, i.size, i.bytes)) = some (some (ndv 0 (.slice none 0 0) 0 0 false 0 (.slice none 0 0)), 7, 88) := by kernel_rfl
/- the cells of a row of nodes -/
theorem kidsS_news {S : Nat → Prop} {w : World} {b o : Nat} : ∀ {l : List Nd} {i : Nat}, KidsS S w (some ⟨b, o, none⟩) i l → ∃ news : List Value, news.length = l.length * 7 ∧ (∀ j u, news[j]? = some u → w.cell? ⟨b, o + i * 7 + j, none⟩ = some u) ∧ (∀ u ∈ news, u.oneCell' = true) ∧
    ∀ (j : Nat) (n : Nd), l[j]? = some n → ∃ k vc mn mx lz g vl, news[j * 7]? = some (.int .i64 k) ∧ news[j * 7 + 1]? = some vc ∧ news[j * 7 + 2]? = some (.int .i64 mn) ∧ news[j * 7 + 3]? = some (.int .i64 mx) ∧ news[j * 7 + 4]? = some (.bool lz) ∧ news[j * 7 + 5]? = some (.int .i64 g) ∧ news[j * 7 + 6]? = some vl ∧ NodeS S w k vc mn mx lz g vl n
  | [], i, _ => ⟨[], rfl, (fun j u h => by simp at h), (fun u h => by cases h), (fun j n h => by simp at h)⟩
  | n :: t, i, h => by
    rw [KidsS] at h
    obtain ⟨⟨b', o', k, vc, mn, mx, lz, g, vl, e, _, ⟨s0, s1, s2, s3, s4, s5, s6⟩, hn⟩, ht⟩ := h
    simp only [Option.some.injEq, Addr.mk.injEq, and_true] at e
    obtain ⟨rfl, rfl⟩ := e
    obtain ⟨news, hl, hc, h1, hk⟩ := kidsS_news ht
    obtain ⟨ka, ki, kj, kb, ks, kt, rfl, rfl⟩ := nodeS_shape hn
    refine ⟨[.int .i64 k, .slice ka ki kj, .int .i64 mn, .int .i64 mx, .bool lz, .int .i64 g, .slice kb ks kt] ++ news, by simp [hl]; omega, fun j u hj => ?_, fun u hu => ?_, fun j m hj => ?_⟩
    · by_cases h7 : j < 7
      · rw [List.getElem?_append_left (by simpa using h7)] at hj
        match j, h7, hj with
        | 0, _, hj => simp at hj; subst hj; exact s0
        | 1, _, hj => simp at hj; subst hj; exact s1
        | 2, _, hj => simp at hj; subst hj; exact s2
        | 3, _, hj => simp at hj; subst hj; exact s3
        | 4, _, hj => simp at hj; subst hj; exact s4
        | 5, _, hj => simp at hj; subst hj; exact s5
        | 6, _, hj => simp at hj; subst hj; exact s6
      · rw [List.getElem?_append_right (by simp; omega)] at hj
        have := hc _ u hj
        rw [show o + (i + 1) * 7 + (j - [Value.int .i64 k, .slice ka ki kj, .int .i64 mn, .int .i64 mx, .bool lz, .int .i64 g, .slice kb ks kt].length) = o + i * 7 + j by simp; omega] at this
        exact this
    · rcases List.mem_append.1 hu with hu | hu
      · simp at hu; rcases hu with rfl | rfl | rfl | rfl | rfl | rfl | rfl <;> rfl
      · exact h1 u hu
    · cases j with
      | zero =>
        simp at hj
        subst hj
        exact ⟨k, _, mn, mx, lz, g, _, by simp, by simp, by simp, by simp, by simp, by simp, by simp, hn⟩
      | succ j =>
        simp at hj
        obtain ⟨k2, vc2, mn2, mx2, lz2, g2, vl2, x0, x1, x2, x3, x4, x5, x6, hh⟩ := hk j m hj
        refine ⟨k2, vc2, mn2, mx2, lz2, g2, vl2, ?_, ?_, ?_, ?_, ?_, ?_, ?_, hh⟩
        all_goals (rw [List.getElem?_append_right (by simp; omega)]; simp only [List.length_cons, List.length_nil]; first | (rw [show (j + 1) * 7 - (0 + 1 + 1 + 1 + 1 + 1 + 1 + 1) = j * 7 by omega]; assumption) | (rw [show (j + 1) * 7 + 1 - (0 + 1 + 1 + 1 + 1 + 1 + 1 + 1) = j * 7 + 1 by omega]; assumption) | (rw [show (j + 1) * 7 + 2 - (0 + 1 + 1 + 1 + 1 + 1 + 1 + 1) = j * 7 + 2 by omega]; assumption) | (rw [show (j + 1) * 7 + 3 - (0 + 1 + 1 + 1 + 1 + 1 + 1 + 1) = j * 7 + 3 by omega]; assumption) | (rw [show (j + 1) * 7 + 4 - (0 + 1 + 1 + 1 + 1 + 1 + 1 + 1) = j * 7 + 4 by omega]; assumption) | (rw [show (j + 1) * 7 + 5 - (0 + 1 + 1 + 1 + 1 + 1 + 1 + 1) = j * 7 + 5 by omega]; assumption) | (rw [show (j + 1) * 7 + 6 - (0 + 1 + 1 + 1 + 1 + 1 + 1 + 1) = j * 7 + 6 by omega]; assumption))
/- a row of the call's own, more of them behind -/
theorem OwnN.moreL {S : Nat → Prop} {w w' : World} {base : Nat} {ty : TypeId} {v v' : Value} {l r : List Nd} {news : List Value} (h : OwnN S w base ty v l) (hl : news.length = r.length * 7)
    (hr : ∀ (j : Nat) (n : Nd), r[j]? = some n → ∃ k vc mn mx lz g vl, news[j * 7]? = some (.int .i64 k) ∧ news[j * 7 + 1]? = some vc ∧ news[j * 7 + 2]? = some (.int .i64 mn) ∧ news[j * 7 + 3]? = some (.int .i64 mx) ∧ news[j * 7 + 4]? = some (.bool lz) ∧ news[j * 7 + 5]? = some (.int .i64 g) ∧ news[j * 7 + 6]? = some vl ∧ NodeS (fun b => S b ∧ b < w.heap.size ∧ v.ownBlock ≠ some b) w k vc mn mx lz g vl n)
    (hx' : ∀ xs, w.ownsRow base ty 7 v l.length xs → w'.ownsRow base ty 7 v' (l.length + r.length) (xs ++ news)) (hg : w.grownBy w' v.ownBlock) (hf : Fresh w v v') : OwnN S w' base ty v' (l ++ r) := by
  obtain ⟨xs, hx, hn⟩ := h
  have hmv : ∀ b, (S b ∧ b < w.heap.size ∧ v.ownBlock ≠ some b) → (S b ∧ b < w'.heap.size ∧ v'.ownBlock ≠ some b) ∧ w'.heap[b]? = w.heap[b]? := fun b hb => by
    refine ⟨⟨hb.1, Nat.lt_of_lt_of_le hb.2.1 hg.size, fun e => ?_⟩, hg.block b hb.2.1 (fun e => hb.2.2 e.symm)⟩
    rcases hf with h | h
    · exact hb.2.2 (h ▸ e)
    · have := h b e; omega
  have hlen : xs.length = l.length * 7 := hx.1
  refine ⟨xs ++ news, by rw [List.length_append]; exact hx' xs hx, fun i m hi => ?_⟩
  by_cases hil : i < l.length
  · rw [List.getElem?_append_left hil] at hi
    obtain ⟨k2, vc2, mn2, mx2, lz2, g2, vl2, x0, x1, x2, x3, x4, x5, x6, hh⟩ := hn i m hi
    refine ⟨k2, vc2, mn2, mx2, lz2, g2, vl2, ?_, ?_, ?_, ?_, ?_, ?_, ?_, hh.mono hmv⟩
    all_goals (rw [List.getElem?_append_left (by omega)]; assumption)
  · rw [List.getElem?_append_right (by omega)] at hi
    obtain ⟨k2, vc2, mn2, mx2, lz2, g2, vl2, x0, x1, x2, x3, x4, x5, x6, hh⟩ := hr _ m hi
    refine ⟨k2, vc2, mn2, mx2, lz2, g2, vl2, ?_, ?_, ?_, ?_, ?_, ?_, ?_, hh.mono hmv⟩
    all_goals (rw [List.getElem?_append_right (by omega)])
    · rw [show i * 7 - xs.length = (i - l.length) * 7 by omega]; exact x0
    · rw [show i * 7 + 1 - xs.length = (i - l.length) * 7 + 1 by omega]; exact x1
    · rw [show i * 7 + 2 - xs.length = (i - l.length) * 7 + 2 by omega]; exact x2
    · rw [show i * 7 + 3 - xs.length = (i - l.length) * 7 + 3 by omega]; exact x3
    · rw [show i * 7 + 4 - xs.length = (i - l.length) * 7 + 4 by omega]; exact x4
    · rw [show i * 7 + 5 - xs.length = (i - l.length) * 7 + 5 by omega]; exact x5
    · rw [show i * 7 + 6 - xs.length = (i - l.length) * 7 + 6 by omega]; exact x6
theorem OwnN.nil' (S : Nat → Prop) (w : World) (base : Nat) (ty : TypeId) : OwnN S w base ty (.slice none 0 0) [] := ⟨[], World.ownsRow_nil _ _ _ _, fun i n h => by simp at h⟩
theorem OwnN.kept {S : Nat → Prop} {w w' : World} {base : Nat} {ty : TypeId} {v : Value} {l : List Nd} (h : OwnN S w base ty v l) (hb : Below w.heap.size w w') : OwnN S w' base ty v l := by
  obtain ⟨xs, ho, hn⟩ := h
  refine ⟨xs, own_below ho hb, fun i n hi => ?_⟩
  obtain ⟨k, vc, mn, mx, lz, g, vl, x0, x1, x2, x3, x4, x5, x6, hh⟩ := hn i n hi
  exact ⟨k, vc, mn, mx, lz, g, vl, x0, x1, x2, x3, x4, x5, x6, hh.mono (fun b hb' => ⟨⟨hb'.1, Nat.lt_of_lt_of_le hb'.2.1 hb.size, hb'.2.2⟩, hb.block b hb'.2.1⟩)⟩
/- more nodes are appended, wherever they stand -/
theorem wpList_append_nodes {P : Program} {ops : Array Oper} {rest : List Oper} {o : Oper} {a : Act} {Q : Exit → Act → World → Prop} (hgd : o.guard = none) (s x : Operand) (t : TypeId)
    (ho : o.op = .call { callee := .builtin .append, args := #[s, x], argTypes := #[t, t] })
    (base : Nat) (e : TypeId) (ht : P.underlying t = some (.slice e)) (hi : (P.info? e).map (fun i => (i.zero, i.size, i.bytes)) = some (some (ndv 0 (.slice none 0 0) 0 0 false 0 (.slice none 0 0)), 7, 88))
    (S : Nat → Prop) (w : World) (v : Value) (l r : List Nd) (b off c : Nat) (hs : a.eval s = v) (hown : OwnN S w base e v l)
    (hx : a.eval x = .slice (some ⟨b, off, none⟩) r.length c) (hk : KidsS (fun b => S b ∧ b < w.heap.size ∧ v.ownBlock ≠ some b) w (some ⟨b, off, none⟩) 0 r) (hl : l.length + r.length ≤ 1000000) (hbase : base ≤ w.heap.size)
    (h : ∀ v' w', OwnN S w' base e v' (l ++ r) → w.grownBy w' v.ownBlock → wpList P ops Q rest (a.put o.dst v') w') : wpList P ops Q (o :: rest) a w := by
  obtain ⟨i0, hi, hz0, hz1, hz2⟩ := info_parts hi
  obtain ⟨news, hnl, hnc, hn1, hnk⟩ := kidsS_news hk
  obtain ⟨xs, hox, hn⟩ := hown
  refine wpList_append_new w hgd s x t ho base e i0 _ 7 88 ht hi hz0 hz1 hz2 rfl (by decide) v l.length xs hs hox ⟨b, off, none⟩ r.length c news hx hnl (fun j u hj => ?_) hn1 (by unfold maxLen; omega) (by omega) hbase ?_
  · rw [Addr.add_defn]
    have := hnc j u hj
    simpa using this
  · intro v' w' hown' hg hf
    refine h v' w' (OwnN.moreL ⟨xs, hox, hn⟩ hnl hnk (fun xs' hxs' => ?_) hg hf) hg
    obtain rfl : xs' = xs := by
      rcases hxs'.2 with ⟨e1, e2⟩ | ⟨g, cap, cur, e1, _, e3, _, _, _, e4⟩
      · rcases hox.2 with ⟨_, e5⟩ | ⟨g2, cap2, cur2, f1, _⟩
        · have h1 := hxs'.1; have h2 := hox.1
          rw [e2] at h1 h2
          exact (List.eq_nil_of_length_eq_zero (l := xs') (by simpa using h1)).trans (List.eq_nil_of_length_eq_zero (l := xs) (by simpa using h2)).symm
        · rw [e1] at f1; cases f1
      · rcases hox.2 with ⟨f1, _⟩ | ⟨g2, cap2, cur2, f1, _, f3, _, _, _, f4⟩
        · rw [e1] at f1; cases f1
        · rw [e1] at f1; cases f1
          rw [e3] at f3; cases f3
          rw [← e4, ← f4]
    exact hown'
theorem wpList_append_node {P : Program} {ops : Array Oper} {rest : List Oper} {o : Oper} {a : Act} {Q : Exit → Act → World → Prop} (hgd : o.guard = none) (s x : Operand) (t : TypeId)
    (ho : o.op = .call { callee := .builtin .append, args := #[s, x], argTypes := #[t, t] })
    (base : Nat) (e : TypeId) (ht : P.underlying t = some (.slice e)) (hi : (P.info? e).map (fun i => (i.zero, i.size, i.bytes)) = some (some (ndv 0 (.slice none 0 0) 0 0 false 0 (.slice none 0 0)), 7, 88))
    (S : Nat → Prop) (w : World) (v : Value) (l : List Nd) (k : Int) (ka : Option Addr) (ki kj : Nat) (mn mx : Int) (lz : Bool) (g : Int) (kb : Option Addr) (ks kt : Nat) (n : Nd) (hs : a.eval s = v) (hown : OwnN S w base e v l)
    (hx : a.eval x = .slice (some ⟨w.heap.size, 0, none⟩) 1 1) (hk : NodeS (fun b => S b ∧ b < w.heap.size ∧ v.ownBlock ≠ some b) w k (.slice ka ki kj) mn mx lz g (.slice kb ks kt) n) (hl : l.length ≤ 1000000) (hbase : base ≤ w.heap.size)
    (h : ∀ v' w', OwnN S w' base e v' (l ++ [n]) → w.grownBy w' v.ownBlock → wpList P ops Q rest (a.put o.dst v') w') :
    wpList P ops Q (o :: rest) a (w.alloc (.cells #[.int .i64 k, .slice ka ki kj, .int .i64 mn, .int .i64 mx, .bool lz, .int .i64 g, .slice kb ks kt] e)) :=
  wpList_plain hgd fun _ hK => wp_append_node s x t ho base e ht hi S w v l k ka ki kj mn mx lz g kb ks kt n hs hown hx hk hl hbase fun v' w' h2 h3 => hK _ _ (h v' w' h2 h3)
/- what flat makes of them -/
def flatK (kind : Int) (l : List Nd) : List Nd := l.flatMap fun n => if n.k = kind then n.kids else if n.k = 0 ∧ kind = 6 then [] else [n]
theorem flatK6 (l : List Nd) : flatK 6 l = Sx.flat6 l := by unfold flatK Sx.flat6; congr 1; funext n; simp
theorem flatK7 (l : List Nd) : flatK 7 l = Sx.flat7 l := by unfold flatK Sx.flat7; congr 1; funext n; simp
theorem flatK_take {kind : Int} {l : List Nd} {m : Nat} {x : Nd} (h : l[m]? = some x) : flatK kind (l.take (m + 1)) = flatK kind (l.take m) ++ (if x.k = kind then x.kids else if x.k = 0 ∧ kind = 6 then [] else [x]) := by
  have hi := (List.getElem?_eq_some_iff.1 h).1
  have hv := (List.getElem?_eq_some_iff.1 h).2
  rw [List.take_succ_eq_append_getElem hi, hv]
  unfold flatK
  rw [List.flatMap_append]
  simp
theorem flatK_len (kind : Int) (l : List Nd) (m : Nat) : (flatK kind (l.take m)).length ≤ (flatK kind l).length := by
  conv => rhs; rw [← List.take_append_drop m l]
  unfold flatK
  rw [List.flatMap_append, List.length_append]
  omega
end Go.Proofs.YtdoapojmenojoaaGreatDoor
end

section
/- What is one of its kind stands as its kids. -/
set_option linter.unusedVariables false
namespace Go.Proofs.YtdoapojmenojoaaGreatDoor
open Go.RowKit
open Sx (Nd)

theorem kidsS_get {S : Nat → Prop} {w : World} {p : Option Addr} {l : List Nd} (h : KidsS S w p 0 l) {m : Nat} {x : Nd} (hx : l[m]? = some x) :
    ∃ b o k vc mn mx lz g vl, p = some ⟨b, o, none⟩ ∧ S b ∧ Seven w b (o + m * 7) k vc mn mx lz g vl ∧ NodeS S w k vc mn mx lz g vl x := by
  obtain ⟨b, o, k, vc, mn, mx, lz, g, vl, e, hb, h7, hn⟩ := (kidsS_from _ _ _ _ _).1 h m x hx
  rw [Nat.zero_add] at h7
  exact ⟨b, o, k, vc, mn, mx, lz, g, vl, e, hb, h7, hn⟩
theorem nodeS_kids {S : Nat → Prop} {w : World} {k mn mx g : Int} {vc vl : Value} {lz : Bool} {x : Nd} (h : NodeS S w k vc mn mx lz g vl x) : x.k = k ∧ ∃ p cap, vl = .slice p x.kids.length cap ∧ KidsS S w p 0 x.kids := by
  obtain ⟨k', c, mn', mx', lz', g', kids⟩ := x
  rw [NodeS] at h
  obtain ⟨rfl, _, _, _, _, _, _, _, _, _, _, _, _, q, cap', e', hq⟩ := h
  exact ⟨rfl, q, cap', e', hq⟩
/- the loop's memory -/
def FL (S : Nat → Prop) (w : World) (v : Value) (l : List Nd) (wr : World) : Prop := OwnN S wr w.heap.size 29 v l ∧ Below w.heap.size w wr
theorem own_ne {S : Nat → Prop} {w : World} {base : Nat} {ty : TypeId} {v : Value} {l : List Nd} (h : OwnN S w base ty v l) {b : Nat} (hb : b < base) : v.ownBlock ≠ some b := fun e => by
  obtain ⟨xs, ho, _⟩ := h
  have := (ho.lt b e).1
  omega
set_option maxRecDepth 20000 in
set_option maxHeartbeats 4000000 in
theorem flat_any (kind : Int) (l : List Nd) (q : Option Addr) (cap : Nat) (S : Nat → Prop) (w : World) (hk67 : kind = 6 ∨ kind = 7) (hK : KidsS S w q 0 l) (hS : ∀ b, S b → b < w.heap.size) (hl : l.length ≤ 100000) (hfl : (flatK kind l).length ≤ 100000) (hne : ∀ n ∈ l, n.k = kind → n.kids ≠ []) :
    Calls Tryz.prog 112 #[.int .i64 kind, .slice q l.length cap] w fun e w' => ∃ v, e = .returned v ∧ OwnN S w' w.heap.size 29 v (flatK kind l) ∧ Below w.heap.size w w' := by
  have HK := Lib.hid hK
  have HS := Lib.hid hS
  have HN := Lib.hid hne
  clear hK hS hne
  go_enter Tryz.func112, Tryz.ntmps112
  go_wp2_with fail
  go_loopw [5, 10] (fun v i wr => ∃ m : Nat, i = .int .i64 (m : Int) ∧ m ≤ l.length ∧ FL S w v (flatK kind (l.take m)) wr) (fun _ i _ => l.length - (intOf i).toNat)
  case atStart => exact ⟨0, rfl, Nat.zero_le _, by rw [List.take_zero]; exact OwnN.nil' _ _ _ _, Below.refl _ _⟩
  case round =>
    obtain ⟨m, rfl, hm, hF⟩ := hrel
    have HF := Lib.hid hF
    clear hF
    by_cases hlt : m < l.length
    · obtain ⟨x, hx⟩ : ∃ x, l[m]? = some x := ⟨_, List.getElem?_eq_getElem hlt⟩
      obtain ⟨b, o, k, vc, mn, mx, lz, g, vl, rfl, hb, f7, hxn⟩ := kidsS_get HK.out hx
      obtain ⟨hxk, kp, kcap, rfl, hkids⟩ := nodeS_kids hxn
      obtain ⟨ka, ki, kj, kb, ks, kt, rfl, hvl⟩ := nodeS_shape hxn
      have hbl := HS.out b hb
      have hml : (m : Int) < (l.length : Int) := by omega
      have hw2 := HF.out.2
      have hz2 := hw2.size
      obtain ⟨f0, f1, f2, f3, f4, f5, f6⟩ := f7.below hw2 hbl
      have hst := flatK_take (kind := kind) hx
      have hfm := flatK_len kind l (m + 1)
      have hfm0 := flatK_len kind l m
      have HST := Lib.hid hst
      have HXN := Lib.hid hxn
      have HKD := Lib.hid hkids
      have HNE := Lib.hid (fun e => HN.out x (List.mem_of_getElem? hx) e)
      have hlo : S = S := rfl
      -- what the row's nodes need of the blocks
      have HMV := Lib.hid (show ∀ c, S c → (S c ∧ c < wr.heap.size ∧ u5.ownBlock ≠ some c) ∧ wr.heap[c]? = w.heap[c]? from fun c hc => ⟨⟨hc, Nat.lt_of_lt_of_le (HS.out c hc) hz2, own_ne HF.out.1 (HS.out c hc)⟩, hw2.block c (HS.out c hc)⟩)
      clear hxn hkids f7 hst hlo hvl
      have HO1 := Lib.hid (HF.out.1.kept (below_new wr (.cells #[.int .i64 k, .slice ka ki kj, .int .i64 mn, .int .i64 mx, .bool lz, .int .i64 g, .slice kp x.kids.length kcap] 29)))
      have HB1 := Lib.hid (bvia hw2 (below_new wr (.cells #[.int .i64 k, .slice ka ki kj, .int .i64 mn, .int .i64 mx, .bool lz, .int .i64 g, .slice kp x.kids.length kcap] 29)))
      have HM1 := Lib.hid (show ∀ c, S c → (S c ∧ c < (wr.alloc (.cells #[.int .i64 k, .slice ka ki kj, .int .i64 mn, .int .i64 mx, .bool lz, .int .i64 g, .slice kp x.kids.length kcap] 29)).heap.size ∧ u5.ownBlock ≠ some c) ∧ (wr.alloc (.cells #[.int .i64 k, .slice ka ki kj, .int .i64 mn, .int .i64 mx, .bool lz, .int .i64 g, .slice kp x.kids.length kcap] 29)).heap[c]? = w.heap[c]? from fun c hc => ⟨⟨hc, by have := (HMV.out c hc).1.2.1; simp; omega, (HMV.out c hc).1.2.2⟩, (Below.heap_alloc _ _ _ (HMV.out c hc).1.2.1).trans (HMV.out c hc).2⟩)
      by_cases hkk : k = kind
      · have t1 : (k == kind) = true := by rw [beq_iff_eq]; exact hkk
        obtain ⟨y, hy⟩ : ∃ y, x.kids[0]? = some y := by
          have := HNE.out (by rw [hxk]; exact hkk)
          cases hh : x.kids with
          | nil => exact absurd hh this
          | cons y t => exact ⟨y, rfl⟩
        obtain ⟨kb, ko, _, _, _, _, _, _, _, rfl, _⟩ := kidsS_get HKD.out hy
        have HFL := Lib.hid (show flatK kind (l.take (m + 1)) = flatK kind (l.take m) ++ x.kids by rw [HST.out, if_pos (by rw [hxk]; exact hkk)])
        have hlen := congrArg List.length HFL.out
        rw [List.length_append] at hlen
        have hkl : (flatK kind (l.take m)).length + x.kids.length ≤ 1000000 := by omega
        have HKL := Lib.hid hkl
        clear hlen hkl hkk hy hfm hfm0 hxk
        go_wp2_with (at_builtin; refine wpList_append_nodes rfl _ _ 27 rfl w.heap.size 29 Tryz.underlying27 Tryz.infoSN S _ _ (flatK kind (l.take m)) x.kids kb ko kcap rfl (by exact HO1.out) rfl (by exact HKD.out.mono HM1.out) (by exact HKL.out) (by exact HB1.out.size) ?_)
        intro v' w' hown' hg'
        have HO3 := Lib.hid hown'
        have b3 := own_below_grown HO1.out HB1.out (Nat.le_refl _) hg'
        clear hown' hg' HO1 HB1 HM1 HF HMV hw2
        go_wp2_with fail
        go_roundw
        case rel => exact ⟨m + 1, by go_num, by omega, by rw [HFL.out]; exact HO3.out, b3⟩
        case measure => simp [intOf]; omega
      · have t1 : (k == kind) = false := by rw [beq_eq_false_iff_ne]; exact hkk
        by_cases h0 : k = 0 ∧ kind = 6
        · obtain ⟨rfl, rfl⟩ := h0
          have HFL := Lib.hid (show flatK 6 (l.take (m + 1)) = flatK 6 (l.take m) by rw [HST.out, if_neg (by rw [hxk]; decide), if_pos ⟨hxk, rfl⟩, List.append_nil])
          clear hkk hfm hfm0 hxk
          go_wp2_with fail
          go_roundw
          case rel => exact ⟨m + 1, by go_num, by omega, by rw [HFL.out]; exact HO1.out, HB1.out⟩
          case measure => simp [intOf]; omega
        · have HFL := Lib.hid (show flatK kind (l.take (m + 1)) = flatK kind (l.take m) ++ [x] by rw [HST.out, if_neg (by rw [hxk]; exact hkk), if_neg (by rw [hxk]; exact h0)])
          have HKL := Lib.hid (show (flatK kind (l.take m)).length ≤ 1000000 by omega)
          have HXM := Lib.hid (HXN.out.mono HM1.out)
          clear hkk hfm hfm0 hxk
          rcases (show (k ≠ 0) ∨ (k = 0 ∧ kind ≠ 6) by by_cases e : k = 0; exact .inr ⟨e, fun e' => h0 ⟨e, e'⟩⟩; exact .inl e) with hz | ⟨rfl, hz⟩
          · have t2 : (k != 0) = true := by rw [bne_iff_ne]; exact hz
            clear h0 hz
            go_wp2_with (at_builtin; refine wpList_append_node rfl _ _ 27 rfl w.heap.size 29 Tryz.underlying27 Tryz.infoSN S _ _ (flatK kind (l.take m)) k ka ki kj mn mx lz g kp x.kids.length kcap x rfl (by exact HO1.out) (by rw [World.size_alloc]; rfl) (by exact HXM.out) (by exact HKL.out) (by exact HB1.out.size) ?_)
            intro v' w' hown' hg'
            have HO3 := Lib.hid hown'
            have b3 := own_below_grown HO1.out HB1.out (Nat.le_refl _) hg'
            clear hown' hg' HO1 HB1 HM1 HF HMV hw2 HXM
            go_wp2_with fail
            go_roundw
            case rel => exact ⟨m + 1, by go_num, by omega, by rw [HFL.out]; exact HO3.out, b3⟩
            case measure => simp [intOf]; omega
          · have t2 : (kind != 6) = true := by rw [bne_iff_ne]; exact hz
            clear h0 hz
            go_wp2_with (at_builtin; refine wpList_append_node rfl _ _ 27 rfl w.heap.size 29 Tryz.underlying27 Tryz.infoSN S _ _ (flatK kind (l.take m)) 0 ka ki kj mn mx lz g kp x.kids.length kcap x rfl (by exact HO1.out) (by rw [World.size_alloc]; rfl) (by exact HXM.out) (by exact HKL.out) (by exact HB1.out.size) ?_)
            intro v' w' hown' hg'
            have HO3 := Lib.hid hown'
            have b3 := own_below_grown HO1.out HB1.out (Nat.le_refl _) hg'
            clear hown' hg' HO1 HB1 HM1 HF HMV hw2 HXM
            go_wp2_with fail
            go_roundw
            case rel => exact ⟨m + 1, by go_num, by omega, by rw [HFL.out]; exact HO3.out, b3⟩
            case measure => simp [intOf]; omega
    · obtain rfl : m = l.length := by omega
      rw [List.take_length] at HF
      obtain ⟨p9, cap9, hv9⟩ := own_slice HF.out.1
      have HO := Lib.hid HF.out.1
      have HB := Lib.hid HF.out.2
      clear HF
      go_wp2_with fail
      go_ret
      exact ⟨_, rfl, HO.out, HB.out⟩
/- a sequence, a choice: what is known of them in memory -/
end Go.Proofs.YtdoapojmenojoaaGreatDoor
end

section
/- Pieces one behind the other, as a node. -/
set_option linter.unusedVariables false
namespace Go.Proofs.YtdoapojmenojoaaGreatDoor
open Go.RowKit
open Sx (Nd)

theorem NodeVS.set7 {S S' : Nat → Prop} {w : World} {B : Nat} {n : Nd} {k mn mx g : Int} {vc vl : Value} {lz : Bool} (h : NodeS S w k vc mn mx lz g vl n) (hS : ∀ b, S b → S' b ∧ b ≠ B) (x0 x1 x2 x3 x4 x5 x6 : Value) : NodeVS S' (set7 w B x0 x1 x2 x3 x4 x5 x6) (ndv k vc mn mx lz g vl) n :=
  ⟨k, vc, mn, mx, lz, g, vl, rfl, h.mono (fun b hb => ⟨(hS b hb).1, set7_block _ _ _ _ _ _ _ _ _ b (hS b hb).2⟩)⟩
theorem below_set7 {w : World} {w0 : World} {B : Nat} (h : Below w0.heap.size w0 w) (hB : w0.heap.size ≤ B) (x0 x1 x2 x3 x4 x5 x6 : Value) : Below w0.heap.size w0 (set7 w B x0 x1 x2 x3 x4 x5 x6) := by
  unfold Go.Proofs.YtdoapojmenojoaaGreatDoor.set7
  exact Below.setCell (Below.setCell (Below.setCell (Below.setCell (Below.setCell (Below.setCell (Below.setCell h (by simpa using hB) _) (by simpa using hB) _) (by simpa using hB) _) (by simpa using hB) _) (by simpa using hB) _) (by simpa using hB) _) (by simpa using hB) _
def seqOf (F : List Nd) : Nd := match F with | [] => Sx.empty | [x] => x | o => .mk 6 [] 0 0 false 0 o
def Joined (S : Nat → Prop) (w w' : World) (b : Nat) : Prop := S b ∨ New w w' b
/- a node without class, of such a kind -/
theorem nodeS_mk {S : Nat → Prop} {w : World} {k : Int} {kids : List Nd} {q : Option Addr} {cap : Nat} (hk : 0 ≤ k ∧ k ≤ 9) (hl : kids.length ≤ 1000000) (h : KidsS S w q 0 kids) : NodeS S w k (.slice none 0 0) 0 0 false 0 (.slice q kids.length cap) (.mk k [] 0 0 false 0 kids) := by
  rw [NodeS]
  exact ⟨rfl, rfl, rfl, rfl, rfl, ⟨by omega, by omega⟩, ⟨by decide, by decide⟩, ⟨by decide, by decide⟩, ⟨by decide, by decide⟩, by simp, (fun k r hr => by simp at hr), hl, ⟨none, 0, rfl, rows_nil _ _ _⟩, q, cap, rfl, h⟩
set_option maxRecDepth 20000 in
set_option maxHeartbeats 4000000 in
theorem sequence_any (l : List Nd) (q : Option Addr) (cap : Nat) (S : Nat → Prop) (w : World) (hK : KidsS S w q 0 l) (hS : ∀ b, S b → b < w.heap.size) (hl : l.length ≤ 100000) (hfl : (Sx.flat6 l).length ≤ 100000) (hne : ∀ n ∈ l, n.k = 6 → n.kids ≠ []) :
    Calls Tryz.prog 128 #[.slice q l.length cap] w fun e w' => ∃ u, e = .returned u ∧ NodeVS (Joined S w w') w' u (Sx.sequence l) ∧ Below w.heap.size w w' := by
  have HC := Lib.hid (fun w0 hK0 hS0 => flat_any 6 l q cap S w0 (.inl rfl) hK0 hS0 hl (by rw [flatK6]; exact hfl) hne)
  have HK := Lib.hid (show KidsS S (w.alloc (.cells #[.int .i64 0, .slice none 0 0, .int .i64 0, .int .i64 0, .bool false, .int .i64 0, .slice none 0 0] 29)) q 0 l from hK.mono (fun b hb => ⟨hb, Below.heap_alloc _ _ _ (hS b hb)⟩))
  have HS := Lib.hid hS
  clear hK hne
  go_enter Tryz.func128, Tryz.ntmps128
  go_wp2_with fail
  refine (HC.out _ HK.out (fun b hb => by have := HS.out b hb; simp; omega)).mono ?_
  rintro e w1 ⟨v, rfl, hown, hw1⟩
  have S1 := (seven0_new w).below hw1
  have hz1 := hw1.size
  simp only [World.size_alloc] at hz1
  have HB := Lib.hid (bvia (below_new w _) hw1)
  obtain ⟨p9, cap9, hv9, _, hk9⟩ := own_kids (S' := fun b => S b ∨ (w.heap.size < b ∧ b < w1.heap.size)) hown (fun b h1 h2 => .inl h1) (fun b h1 h2 => .inr ⟨by simp at h1; omega, h2⟩)
  rw [flatK6] at hv9 hk9
  subst hv9
  have HK9 := Lib.hid hk9
  have HSq := Lib.hid (show ∀ b, (S b ∨ (w.heap.size < b ∧ b < w1.heap.size)) → b < w1.heap.size ∧ b ≠ w.heap.size from fun b hb => by
    rcases hb with hb | hb
    · have := HS.out b hb; omega
    · omega)
  obtain ⟨y0, y1, y2, y3, y4, y5, y6, yf⟩ := S1.cells
  clear hown hw1 hk9 S1 HC HK
  obtain ⟨Fl, hF⟩ : ∃ Fl, Fl = Sx.flat6 l := ⟨_, rfl⟩
  have HSE := Lib.hid (show Sx.sequence l = seqOf Fl by rw [hF]; rfl)
  rw [← hF] at HK9 hfl ⊢
  have HFL := Lib.hid hfl
  clear hF hfl
  match Fl, HK9, HSE, HFL with
  | [], HK9, HSE, HFL =>
    have h7 := set7_seven w1 w.heap.size 0 0 0 0 false (.slice none 0 0) (.slice none 0 0) y0 y1 y2 y3 y4 y5 y6
    have HN := Lib.hid (show NodeVS (Joined S w (set7 w1 w.heap.size (.int .i64 0) (.slice none 0 0) (.int .i64 0) (.int .i64 0) (.bool false) (.int .i64 0) (.slice none 0 0))) (set7 w1 w.heap.size (.int .i64 0) (.slice none 0 0) (.int .i64 0) (.int .i64 0) (.bool false) (.int .i64 0) (.slice none 0 0)) (ndv 0 (.slice none 0 0) 0 0 false 0 (.slice none 0 0)) (Sx.sequence l) by
      rw [HSE.out]
      unfold seqOf
      exact NodeVS.set7 (S := fun _ => False) (nodeS_mk (kids := []) (by decide) (by simp) (by rw [KidsS]; trivial)) (fun b hb => hb.elim) _ _ _ _ _ _ _)
    have HBF := Lib.hid (below_set7 HB.out (Nat.le_refl _) (.int .i64 0) (.slice none 0 0) (.int .i64 0) (.int .i64 0) (.bool false) (.int .i64 0) (.slice none 0 0))
    go_wp2_with fail
    change bodyPost _ _ _ _ _ (set7 w1 w.heap.size (.int .i64 0) (.slice none 0 0) (.int .i64 0) (.int .i64 0) (.bool false) (.int .i64 0) (.slice none 0 0))
    obtain ⟨z0, z1, z2, z3, z4, z5, z6⟩ := h7
    simp only [Nat.zero_add] at z0 z1 z2 z3 z4 z5 z6
    generalize (set7 w1 w.heap.size (.int .i64 0) (.slice none 0 0) (.int .i64 0) (.int .i64 0) (.bool false) (.int .i64 0) (.slice none 0 0)) = wf at *
    exact bodyPost_ret (v := ndv 0 (.slice none 0 0) 0 0 false 0 (.slice none 0 0)) (by unfold ndv; simp [results, Tryz.results128, go_sem, *]) rfl ⟨_, rfl, HN.out, HBF.out⟩
  | [x], HK9, HSE, HFL =>
    obtain ⟨b, o, k, vc, mn, mx, lz, g, vl, rfl, hb, f7, hxn⟩ := kidsS_get HK9.out (m := 0) (x := x) rfl
    obtain ⟨ka, ki, kj, kb, ks, kt, rfl, rfl⟩ := nodeS_shape hxn
    simp only [Nat.zero_mul, Nat.add_zero] at f7
    obtain ⟨f0, f1, f2, f3, f4, f5, f6⟩ := f7
    have HXN := Lib.hid hxn
    have hone : (0 : Int) < ((1 : Nat) : Int) := by decide
    clear hxn
    have h7 := set7_seven w1 w.heap.size k mn mx g lz (.slice ka ki kj) (.slice kb ks kt) y0 y1 y2 y3 y4 y5 y6
    have HN := Lib.hid (show NodeVS (Joined S w (set7 w1 w.heap.size (.int .i64 k) (.slice ka ki kj) (.int .i64 mn) (.int .i64 mx) (.bool lz) (.int .i64 g) (.slice kb ks kt))) (set7 w1 w.heap.size (.int .i64 k) (.slice ka ki kj) (.int .i64 mn) (.int .i64 mx) (.bool lz) (.int .i64 g) (.slice kb ks kt)) (ndv k (.slice ka ki kj) mn mx lz g (.slice kb ks kt)) (Sx.sequence l) by
      rw [HSE.out]
      unfold seqOf
      exact NodeVS.set7 HXN.out (fun b hb => ⟨by
        rcases hb with hb | hb
        · exact .inl hb
        · exact .inr ⟨by omega, by rw [set7_size]; exact hb.2⟩, (HSq.out b hb).2⟩) _ _ _ _ _ _ _)
    have HBF := Lib.hid (below_set7 HB.out (Nat.le_refl _) (.int .i64 k) (.slice ka ki kj) (.int .i64 mn) (.int .i64 mx) (.bool lz) (.int .i64 g) (.slice kb ks kt))
    go_wp2_with fail
    change bodyPost _ _ _ _ _ (set7 w1 w.heap.size (.int .i64 k) (.slice ka ki kj) (.int .i64 mn) (.int .i64 mx) (.bool lz) (.int .i64 g) (.slice kb ks kt))
    obtain ⟨z0, z1, z2, z3, z4, z5, z6⟩ := h7
    simp only [Nat.zero_add] at z0 z1 z2 z3 z4 z5 z6
    generalize (set7 w1 w.heap.size (.int .i64 k) (.slice ka ki kj) (.int .i64 mn) (.int .i64 mx) (.bool lz) (.int .i64 g) (.slice kb ks kt)) = wf at *
    exact bodyPost_ret (v := ndv k (.slice ka ki kj) mn mx lz g (.slice kb ks kt)) (by unfold ndv; simp [results, Tryz.results128, go_sem, *]) rfl ⟨_, rfl, HN.out, HBF.out⟩
  | x :: y :: t, HK9, HSE, HFL =>
    obtain ⟨n, hn⟩ : ∃ n, n = (x :: y :: t).length := ⟨_, rfl⟩
    have hn2 : 2 ≤ n := by rw [hn]; simp
    have e0 : (((n : Nat) : Int) == 0) = false := by rw [beq_eq_false_iff_ne]; omega
    have e1 : (((n : Nat) : Int) == 1) = false := by rw [beq_eq_false_iff_ne]; omega
    have HNN := Lib.hid hn
    rw [← hn]
    clear hn
    have h7 := set7_seven w1 w.heap.size 6 0 0 0 false (.slice none 0 0) (.slice p9 n cap9) y0 y1 y2 y3 y4 y5 y6
    have HN := Lib.hid (show NodeVS (Joined S w (set7 w1 w.heap.size (.int .i64 6) (.slice none 0 0) (.int .i64 0) (.int .i64 0) (.bool false) (.int .i64 0) (.slice p9 n cap9))) (set7 w1 w.heap.size (.int .i64 6) (.slice none 0 0) (.int .i64 0) (.int .i64 0) (.bool false) (.int .i64 0) (.slice p9 n cap9)) (ndv 6 (.slice none 0 0) 0 0 false 0 (.slice p9 n cap9)) (Sx.sequence l) by
      rw [HSE.out, HNN.out]
      unfold seqOf
      exact NodeVS.set7 (nodeS_mk (kids := x :: y :: t) (by decide) (by have := HFL.out; omega) HK9.out) (fun b hb => ⟨by
        rcases hb with hb | hb
        · exact .inl hb
        · exact .inr ⟨by omega, by rw [set7_size]; exact hb.2⟩, (HSq.out b hb).2⟩) _ _ _ _ _ _ _)
    have HBF := Lib.hid (below_set7 HB.out (Nat.le_refl _) (.int .i64 6) (.slice none 0 0) (.int .i64 0) (.int .i64 0) (.bool false) (.int .i64 0) (.slice p9 n cap9))
    go_wp2_with fail
    change bodyPost _ _ _ _ _ (set7 w1 w.heap.size (.int .i64 6) (.slice none 0 0) (.int .i64 0) (.int .i64 0) (.bool false) (.int .i64 0) (.slice p9 n cap9))
    obtain ⟨z0, z1, z2, z3, z4, z5, z6⟩ := h7
    simp only [Nat.zero_add] at z0 z1 z2 z3 z4 z5 z6
    generalize (set7 w1 w.heap.size (.int .i64 6) (.slice none 0 0) (.int .i64 0) (.int .i64 0) (.bool false) (.int .i64 0) (.slice p9 n cap9)) = wf at *
    exact bodyPost_ret (v := ndv 6 (.slice none 0 0) 0 0 false 0 (.slice p9 n cap9)) (by unfold ndv; simp [results, Tryz.results128, go_sem, *]) rfl ⟨_, rfl, HN.out, HBF.out⟩
end Go.Proofs.YtdoapojmenojoaaGreatDoor
end
