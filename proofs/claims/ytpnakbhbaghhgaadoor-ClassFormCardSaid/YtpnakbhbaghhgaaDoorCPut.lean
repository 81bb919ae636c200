/- The document's own answer to classes: a range comes to a form. -/
import Derived.Test.YtpnakbhbaghhgaaDoorCApp
import Derived.StillTailTactics
import Derived.Lib.MinMax
set_option linter.unusedVariables false
namespace Go.Proofs.YtpnakbhbaghhgaaDoor
open Go.RowKit

theorem take_app {l : List Cl.Rg} {k : Nat} {r : Cl.Rg} (h : l[k]? = some r) : l.take (k + 1) = l.take k ++ [r] := by
  have hi := (List.getElem?_eq_some_iff.1 h).1
  have hv := (List.getElem?_eq_some_iff.1 h).2
  rw [List.take_succ_eq_append_getElem hi, hv]
theorem drop_cons {l : List Cl.Rg} {k : Nat} {r : Cl.Rg} (h : l[k]? = some r) : l.drop k = r :: l.drop (k + 1) := by
  have hi := (List.getElem?_eq_some_iff.1 h).1
  have hv := (List.getElem?_eq_some_iff.1 h).2
  rw [List.drop_eq_getElem_cons hi, hv]
theorem take_len {l : List Cl.Rg} {k : Nat} (h : k ≤ l.length) : (l.take k).length = k := by rw [List.length_take]; omega
/- how far the ranges ahead go -/
def Ahd (l : List Cl.Rg) (r : Cl.Rg) (k : Nat) : Prop := ∀ t ∈ l.take k, t.2 + 1 < r.1
theorem ahd_zero (l : List Cl.Rg) (r : Cl.Rg) : Ahd l r 0 := fun t h => by simp at h
theorem ahd_more {l : List Cl.Rg} {r t : Cl.Rg} {k : Nat} (h : Ahd l r k) (ht : l[k]? = some t) (hl : t.2 + 1 < r.1) : Ahd l r (k + 1) := fun u hu => by
  rw [take_app ht] at hu
  rcases List.mem_append.1 hu with hu | hu
  · exact h u hu
  · simp at hu; subst hu; exact hl
theorem ahd_put {l : List Cl.Rg} {r : Cl.Rg} {k : Nat} (h : Ahd l r k) (hk : k = l.length ∨ ∃ t, l[k]? = some t ∧ ¬ t.2 + 1 < r.1) : Cl.put l r = l.take k ++ ((Cl.absorb (l.drop k) r).1 :: (Cl.absorb (l.drop k) r).2) := by
  have h1 : l.takeWhile (fun t => decide (t.2 + 1 < r.1)) = l.take k ∧ l.dropWhile (fun t => decide (t.2 + 1 < r.1)) = l.drop k := by
    have e : l = l.take k ++ l.drop k := (List.take_append_drop k l).symm
    have hd : (l.drop k).takeWhile (fun t => decide (t.2 + 1 < r.1)) = [] ∧ (l.drop k).dropWhile (fun t => decide (t.2 + 1 < r.1)) = l.drop k := by
      rcases hk with rfl | ⟨t, ht, hn⟩
      · simp
      · rw [drop_cons ht]; simp [hn]
    constructor
    · conv => lhs; rw [e]
      rw [List.takeWhile_append_of_pos (fun t ht => by simpa using h t ht), hd.1, List.append_nil]
    · conv => lhs; rw [e]
      rw [List.dropWhile_append_of_pos (fun t ht => by simpa using h t ht), hd.2]
  unfold Cl.put
  rw [h1.1, h1.2]
/- the second loop: k ranges are in (x, y) -/
def Abs (l : List Cl.Rg) (k0 : Nat) (r : Cl.Rg) (k : Nat) (x y : Int) : Prop := Cl.absorb (l.drop k0) r = Cl.absorb (l.drop k) (x, y)
theorem abs_more {l : List Cl.Rg} {k0 : Nat} {r : Cl.Rg} {k : Nat} {x y a b : Int} (h : Abs l k0 r k x y) (ht : l[k]? = some (a, b)) (hl : a ≤ y + 1) : Abs l k0 r (k + 1) (min x a) (max y b) := by
  unfold Abs at *
  rw [h, drop_cons ht, Cl.absorb]
  simp only [hl, if_true]
theorem abs_end {l : List Cl.Rg} {k0 : Nat} {r : Cl.Rg} {k : Nat} {x y : Int} (h : Abs l k0 r k x y) (hk : k = l.length ∨ ∃ a b, l[k]? = some (a, b) ∧ ¬ a ≤ y + 1) : Cl.absorb (l.drop k0) r = ((x, y), l.drop k) := by
  unfold Abs at h
  rw [h]
  rcases hk with rfl | ⟨a, b, ht, hn⟩
  · simp [Cl.absorb]
  · rw [drop_cons ht, Cl.absorb]
    simp only [hn, if_false]
def Bd (l : List Cl.Rg) : Prop := ∀ (k : Nat) (r : Cl.Rg), l[k]? = some r → Cl.may r
theorem bd_nf {l : List Cl.Rg} (h : Cl.NF l) : Bd l := fun k r hr => h.2 r (List.mem_of_getElem? hr)
/- what the first loop leaves -/
def PutA (l : List Cl.Rg) (a b : Int) (w0 : World) (k : Nat) (v : Value) (w : World) : Prop :=
  k ≤ l.length ∧ Hid (Ahd l (a, b) k) ∧ OwnP w (w0.heap.size + 1) 56 v (l.take k) ∧ Two w w0.heap.size (.int .i32 a) (.int .i32 b) ∧ Below w0.heap.size w0 w
def PutB (l : List Cl.Rg) (a b : Int) (k0 : Nat) (v : Value) (w0 : World) (k : Nat) (w : World) : Prop :=
  k ≤ l.length ∧ ∃ x y : Int, 0 ≤ x ∧ x ≤ y ∧ y ≤ 1114111 ∧ Hid (Abs l k0 (a, b) k x y) ∧ OwnP w (w0.heap.size + 1) 56 v (l.take k0) ∧ Two w w0.heap.size (.int .i32 x) (.int .i32 y) ∧ Below w0.heap.size w0 w
/- what a round of the second loop stands on -/
structure PG (w0 : World) (l0 : List Cl.Rg) (v : Value) (x y : Int) (g q : Nat) (c d : Int) (w : World) : Prop where
  own : OwnP w (w0.heap.size + 1) 56 v l0
  two : Two w w0.heap.size (.int .i32 x) (.int .i32 y)
  c1 : w.cell? ⟨g, q, none⟩ = some (.int .i32 c)
  c2 : w.cell? ⟨g, q + 1, none⟩ = some (.int .i32 d)
  bel : Below w0.heap.size w0 w
  lt : g < w0.heap.size
theorem PG.drewN {w0 : World} {l0 : List Cl.Rg} {v : Value} {x y : Int} {g q : Nat} {c d : Int} {w : World} (h : PG w0 l0 v x y g q c d w) (n : Nat) : PG w0 l0 v x y g q c d (w.drewN n) := ⟨h.own, h.two.drewN n, h.c1, h.c2, bdrewN h.bel, h.lt⟩
theorem PG.drew {w0 : World} {l0 : List Cl.Rg} {v : Value} {x y : Int} {g q : Nat} {c d : Int} {w : World} (h : PG w0 l0 v x y g q c d w) : PG w0 l0 v x y g q c d w.drew := ⟨h.own, h.two, h.c1, h.c2, h.bel.drew, h.lt⟩
theorem PG.set0 {w0 : World} {l0 : List Cl.Rg} {v : Value} {x y : Int} {g q : Nat} {c d : Int} {w : World} (h : PG w0 l0 v x y g q c d w) (u : Int) : PG w0 l0 v u y g q c d (w.setCell ⟨w0.heap.size, 0, none⟩ (.int .i32 u)) := by
  have hne := h.lt
  refine ⟨h.own.set (by simp) _, h.two.set0 _, ?_, ?_, h.bel.setCell (by simp) _, h.lt⟩
  · rw [World.cell?_setCell_other w _ _ _ (fun e => by have := congrArg Addr.block e; simp at this; omega)]; exact h.c1
  · rw [World.cell?_setCell_other w _ _ _ (fun e => by have := congrArg Addr.block e; simp at this; omega)]; exact h.c2
theorem PG.set1 {w0 : World} {l0 : List Cl.Rg} {v : Value} {x y : Int} {g q : Nat} {c d : Int} {w : World} (h : PG w0 l0 v x y g q c d w) (u : Int) : PG w0 l0 v x u g q c d (w.setCell ⟨w0.heap.size, 1, none⟩ (.int .i32 u)) := by
  have hne := h.lt
  refine ⟨h.own.set (by simp) _, h.two.set1 _, ?_, ?_, h.bel.setCell (by simp) _, h.lt⟩
  · rw [World.cell?_setCell_other w _ _ _ (fun e => by have := congrArg Addr.block e; simp at this; omega)]; exact h.c1
  · rw [World.cell?_setCell_other w _ _ _ (fun e => by have := congrArg Addr.block e; simp at this; omega)]; exact h.c2
set_option maxRecDepth 20000 in
set_option maxHeartbeats 16000000 in
theorem rput_some (g off : Nat) (cap : Nat) (l : List Cl.Rg) (a b : Int) (w : World) (hp : RowP w (some ⟨g, off, none⟩) l) (hc : l.length ≤ cap) (hl : l.length ≤ 1000000) (hf : Cl.NF l) (hr : Cl.may (a, b)) :
    Calls Tryd.prog 30 #[.slice (some ⟨g, off, none⟩) l.length cap, .agg #[.int .i32 a, .int .i32 b]] w (Mk 56 (Cl.put l (a, b)) w) := by
  have HP := Lib.hid hp
  have HB := Lib.hid (bd_nf hf)
  have hr' := hr
  unfold Cl.may at hr'
  simp only at hr'
  clear hp hf
  go_enter Tryd.func30, Tryd.ntmps30
  go_wp2_with fail
  go_loopw [5, 6] (fun v i wr => ∃ k : Nat, i = .int .i64 (k : Int) ∧ PutA l a b w k v wr) (fun _ i _ => l.length - (intOf i).toNat)
  case atStart => exact ⟨0, rfl, Nat.zero_le _, Lib.hid (ahd_zero l _), OwnP.nil _ _ _, Two.new w _ _ _, Below.alloc (Below.refl _ _) (Nat.le_refl _) _⟩
  case round =>
    obtain ⟨k, rfl, hk, hA, hown, ht, br⟩ := hrel
    have HO := Lib.hid hown
    have HT := Lib.hid ht
    obtain ⟨t0, t1, tf, ts⟩ := ht
    clear hown
    by_cases hlt : k < l.length
    · obtain ⟨g', off', c, d, hpe, hg, hcd, c1, c2⟩ := (HP.out.below br).get hlt
      simp only [Option.some.injEq, Addr.mk.injEq, and_true] at hpe
      obtain ⟨rfl, rfl⟩ := hpe
      have hkl : (k : Int) < (l.length : Int) := by omega
      have hk0 : (0 : Int) ≤ (k : Int) := by omega
      have hcd' := HB.out k _ hcd
      unfold Cl.may at hcd'
      simp only at hcd'
      have HC := Lib.hid hcd
      have hdw : IntKind.i32.wrap (d + 1) = d + 1 := IntWalk.i32_in _ ⟨by omega, by omega⟩
      clear hcd
      by_cases hlo : d + 1 < a
      · have hlo' : decide (d + 1 < a) = true := decide_eq_true hlo
        have e1 := Lib.hid (ahd_more hA.out HC.out hlo)
        go_wp2_with fail
        go_quiet (fail)
        go_wp2_with (at_builtin; refine append_pair rfl _ _ 26 rfl (w.heap.size + 1) 56 Tryd.underlying26 Tryd.infoQ _ _ (l.take k) _ _ rfl (by exact (HO.out.drewN _)) rfl ?c1 ?c2 ?_)
        case c1 => rw [take_len hk]; omega
        case c2 => simp; omega
        · intro v' w' hown' hg
          have b' := bdrewN (n := nq) br
          have hb' := below_own b' (HO.out.drewN nq) (by omega) (by have := br.size; simp; omega) hg
          have ht' := two_own (HT.out.drewN nq) (HO.out.drewN nq) (by omega) hg
          rw [← take_app HC.out] at hown'
          have HO' := Lib.hid hown'
          have HT' := Lib.hid ht'
          clear hown' hg HO HT t0 t1 tf ts ht' b' c1 c2
          go_wp2_with fail
          go_roundw
          case rel => exact ⟨k + 1, by go_num, by omega, e1, HO'.out, HT'.out, hb'⟩
          case measure => simp [intOf]; omega
      · have hlo' : decide (d + 1 < a) = false := decide_eq_false hlo
        have E := Lib.hid (ahd_put hA.out (.inr ⟨_, HC.out, hlo⟩))
        go_wp2_with fail
        go_quiet (fail)
        go_wp2_with fail
        have BR := Lib.hid (bdrewN (n := nq) br)
        clear t0 t1 tf c1 c2 br
        go_loopw [6] (fun i wr2 => ∃ j : Nat, i = .int .i64 (j : Int) ∧ PutB l a b k u5 w j wr2) (fun i _ => l.length - (intOf i).toNat)
        case atStart => exact ⟨k, rfl, hk, a, b, hr'.1, hr'.2.2, hr'.2.1, Lib.hid rfl, HO.out, HT.out, BR.out⟩
        case round =>
          obtain ⟨j, rfl, hj, xx, yy, hx0, hxy, hy1, hB, hown, ht, br⟩ := hrel
          clear BR HO HT
          have hyw : IntKind.i32.wrap (yy + 1) = yy + 1 := IntWalk.i32_in _ ⟨by omega, by omega⟩
          by_cases hlt : j < l.length
          · obtain ⟨g', off', c, d, hpe, hg, hcd, c1, c2⟩ := HP.out.get hlt
            simp only [Option.some.injEq, Addr.mk.injEq, and_true] at hpe
            obtain ⟨rfl, rfl⟩ := hpe
            have G : PG w (l.take k) u5 xx yy g (off + j * 2) c d wr := ⟨hown, ht, (br.cell (p := ⟨g, off + j * 2, none⟩) hg).trans c1, (br.cell (p := ⟨g, off + j * 2 + 1, none⟩) hg).trans c2, br, hg⟩
            have hjl : (j : Int) < (l.length : Int) := by omega
            have hj0 : (0 : Int) ≤ (j : Int) := by omega
            have hcd' := HB.out j _ hcd
            unfold Cl.may at hcd'
            simp only at hcd'
            have HC := Lib.hid hcd
            clear hcd hown ht c1 c2 br
            obtain ⟨_, t0, t1, c1, c2⟩ : True ∧ _ ∧ _ ∧ _ ∧ _ := ⟨trivial, G.two.1, G.two.2.1, G.c1, G.c2⟩
            by_cases hlo : c ≤ yy + 1
            · have hlo' : decide (c ≤ yy + 1) = true := decide_eq_true hlo
              have e1 := Lib.hid (abs_more hB.out HC.out hlo)
              have HG := Lib.hid G
              clear G
              go_wp2_with fail
              go_quiet (fail)
              go_wp2_with fail
              have G := HG.out.drewN nq
              clear HG t0 t1 c1 c2
              generalize wr.drewN nq = wq at G ⊢
              obtain ⟨_, t0, t1, c1, c2⟩ : True ∧ _ ∧ _ ∧ _ ∧ _ := ⟨trivial, G.two.1, G.two.2.1, G.c1, G.c2⟩
              have HG := Lib.hid G
              clear G
              go_still_tail 8, (by kernel_rfl)
              change wpList _ _ _ _ _ wq.drew
              have G := HG.out.drew
              clear HG t0 t1 c1 c2
              generalize wq.drew = wd at G ⊢
              obtain ⟨_, t0, t1, c1, c2, f0⟩ : True ∧ _ ∧ _ ∧ _ ∧ _ ∧ _ := ⟨trivial, G.two.1, G.two.2.1, G.c1, G.c2, G.two.2.2.1 0⟩
              have HG := Lib.hid G
              clear G
              go_wp2_with fail
              have G := HG.out.set0 (min xx c)
              clear HG t0 t1 c1 c2 f0
              generalize wd.setCell ⟨w.heap.size, 0, none⟩ (.int .i32 (min xx c)) = wq at G ⊢
              obtain ⟨_, t0, t1, c1, c2⟩ : True ∧ _ ∧ _ ∧ _ ∧ _ := ⟨trivial, G.two.1, G.two.2.1, G.c1, G.c2⟩
              have HG := Lib.hid G
              clear G
              go_still_tail 8, (by kernel_rfl)
              change wpList _ _ _ _ _ wq.drew
              have G := HG.out.drew
              clear HG t0 t1 c1 c2
              generalize wq.drew = wd at G ⊢
              obtain ⟨_, t0, t1, c1, c2, f1⟩ : True ∧ _ ∧ _ ∧ _ ∧ _ ∧ _ := ⟨trivial, G.two.1, G.two.2.1, G.c1, G.c2, G.two.2.2.1 1⟩
              have HG := Lib.hid G
              clear G
              go_wp2_with fail
              have G := HG.out.set1 (max yy d)
              clear HG t0 t1 c1 c2 f1
              generalize wd.setCell ⟨w.heap.size, 1, none⟩ (.int .i32 (max yy d)) = wq at G ⊢
              go_roundw
              case rel => exact ⟨j + 1, by go_num, by omega, min xx c, max yy d, by omega, by omega, by omega, e1, G.own, G.two, G.bel⟩
              case measure => simp [intOf]; omega
            · have hlo' : decide (c ≤ yy + 1) = false := decide_eq_false hlo
              have e1 := Lib.hid (abs_end hB.out (.inr ⟨_, _, HC.out, hlo⟩))
              have OW := Lib.hid G.own
              have BE := Lib.hid G.bel
              have ts := G.two.2.2.2
              clear G
              go_wp2_with fail
              go_quiet (fail)
              have OW := Lib.hid (OW.out.drewN nq)
              have BE := Lib.hid (bdrewN (n := nq) BE.out)
              have t0 : (wr.drewN nq).cell? ⟨w.heap.size, 0, none⟩ = some (.int .i32 xx) := t0
              have t1 : (wr.drewN nq).cell? ⟨w.heap.size, 1, none⟩ = some (.int .i32 yy) := t1
              have ts : w.heap.size < (wr.drewN nq).heap.size := ts
              generalize wr.drewN nq = wq at OW BE t0 t1 ts ⊢
              go_wp2_with (at_builtin; refine append_pair rfl _ _ 26 rfl (w.heap.size + 1) 56 Tryd.underlying26 Tryd.infoQ _ _ (l.take k) _ _ rfl (by exact OW.out) rfl ?d1 ?d2 ?_)
              case d1 => rw [take_len hk]; omega
              case d2 => have := ts; simp; omega
              · intro v' w' hown' hg
                have b3 := below_own BE.out OW.out (by omega) (by have := ts; omega) hg
                have s3 : w.heap.size + 1 ≤ w'.heap.size := by have := hg.size; omega
                have hown'' : OwnP w' (w.heap.size + 1) 56 v' (l.take k ++ [(xx, yy)]) := by first | exact hown' | simpa using hown'
                have HO' := Lib.hid hown''
                clear hown' hown'' hg OW BE t0 t1
                have hjl : (j : Int) ≤ (l.length : Int) := by omega
                have hj0 : (0 : Int) ≤ (j : Int) := by omega
                have hlc : (l.length : Int) ≤ (cap : Int) := by omega
                have hrow := (HP.out.below (b3)).drop j
                go_wp2_with (at_builtin; refine append_row rfl _ _ 26 rfl (w.heap.size + 1) 56 Tryd.underlying26 Tryd.infoQ _ _ (l.take k ++ [(xx, yy)]) (l.drop j) (some ⟨g, off + j * 2, none⟩) (cap - j) rfl (by first | exact HO'.out | simpa using HO'.out) (by simp [Act.eval]) hrow (.inr ⟨_, _, rfl⟩) ?f4 s3 ?_)
                case f4 => simp; omega
                intro v2 w2 hown2 hg2
                have b4 := below_own b3 HO'.out (by omega) (by omega) hg2
                have HO2 := Lib.hid hown2
                clear hown2 hg2 HO' b3 hrow
                go_wp2_with fail
                go_ret
                refine ⟨v2, rfl, ?_, b4⟩
                rw [E.out, e1.out]
                simpa [List.append_assoc] using HO2.out.mono (Nat.le_succ _)
          · have hje : j = l.length := by omega
            have e1 := Lib.hid (abs_end hB.out (.inl hje))
            have hjf : decide ((j : Int) < (l.length : Int)) = false := decide_eq_false (by omega)
            have hjf' : (l.length : Int) ≤ (j : Int) := by omega
            have OW := Lib.hid hown
            have BE := Lib.hid br
            obtain ⟨t0, t1, _, ts⟩ := ht
            clear hown br
            go_wp2_with fail
            go_quiet (fail)
            have OW := Lib.hid (OW.out.drewN nq)
            have BE := Lib.hid (bdrewN (n := nq) BE.out)
            have t0 : (wr.drewN nq).cell? ⟨w.heap.size, 0, none⟩ = some (.int .i32 xx) := t0
            have t1 : (wr.drewN nq).cell? ⟨w.heap.size, 1, none⟩ = some (.int .i32 yy) := t1
            have ts : w.heap.size < (wr.drewN nq).heap.size := ts
            generalize wr.drewN nq = wq at OW BE t0 t1 ts ⊢
            go_wp2_with (at_builtin; refine append_pair rfl _ _ 26 rfl (w.heap.size + 1) 56 Tryd.underlying26 Tryd.infoQ _ _ (l.take k) _ _ rfl (by exact OW.out) rfl ?d1 ?d2 ?_)
            case d1 => rw [take_len hk]; omega
            case d2 => have := ts; simp; omega
            · intro v' w' hown' hg
              have b3 := below_own BE.out OW.out (by omega) (by have := ts; omega) hg
              have s3 : w.heap.size + 1 ≤ w'.heap.size := by have := hg.size; omega
              have hown'' : OwnP w' (w.heap.size + 1) 56 v' (l.take k ++ [(xx, yy)]) := by first | exact hown' | simpa using hown'
              have HO' := Lib.hid hown''
              clear hown' hown'' hg OW BE t0 t1
              have hjl : (j : Int) ≤ (l.length : Int) := by omega
              have hj0 : (0 : Int) ≤ (j : Int) := by omega
              have hlc : (l.length : Int) ≤ (cap : Int) := by omega
              have hdr : l.drop j = [] := by rw [hje]; simp
              have e2 : Cl.absorb (l.drop k) (a, b) = ((xx, yy), []) := by rw [e1.out, hdr]
              have E2 := Lib.hid e2
              clear e1 hdr e2
              by_cases hcl : cap = l.length
              · go_wp2_with (at_builtin; refine append_row rfl _ _ 26 rfl (w.heap.size + 1) 56 Tryd.underlying26 Tryd.infoQ _ _ (l.take k ++ [(xx, yy)]) [] (some ⟨g, off, none⟩) (cap - l.length) rfl (by first | exact HO'.out | simpa using HO'.out) (by simp [Act.eval, hje, hcl]) (RowP.nil _ _) (.inr ⟨_, _, rfl⟩) ?f4 s3 ?_)
                case f4 => simp; omega
                intro v2 w2 hown2 hg2
                have b4 := below_own b3 HO'.out (by omega) (by omega) hg2
                have HO2 := Lib.hid hown2
                clear hown2 hg2 HO' b3
                go_wp2_with fail
                go_ret
                refine ⟨v2, rfl, ?_, b4⟩
                rw [E.out, E2.out]
                simpa using HO2.out.mono (Nat.le_succ _)
              · go_wp2_with (at_builtin; refine append_row rfl _ _ 26 rfl (w.heap.size + 1) 56 Tryd.underlying26 Tryd.infoQ _ _ (l.take k ++ [(xx, yy)]) [] (some ⟨g, off + l.length * 2, none⟩) (cap - l.length) rfl (by first | exact HO'.out | simpa using HO'.out) (by simp [Act.eval, hje, hcl]) (RowP.nil _ _) (.inr ⟨_, _, rfl⟩) ?f4 s3 ?_)
                case f4 => simp; omega
                intro v2 w2 hown2 hg2
                have b4 := below_own b3 HO'.out (by omega) (by omega) hg2
                have HO2 := Lib.hid hown2
                clear hown2 hg2 HO' b3
                go_wp2_with fail
                go_ret
                refine ⟨v2, rfl, ?_, b4⟩
                rw [E.out, E2.out]
                simpa using HO2.out.mono (Nat.le_succ _)
    · obtain rfl : k = l.length := by omega
      have E := Lib.hid (ahd_put hA.out (.inl rfl))
      go_wp2_with fail
      go_quiet (fail)
      go_wp2_with fail
      have BR := Lib.hid (bdrewN (n := nq) br)
      clear t0 t1 tf br
      go_loopw [6] (fun i wr2 => ∃ j : Nat, i = .int .i64 (j : Int) ∧ PutB l a b l.length u5 w j wr2) (fun i _ => l.length - (intOf i).toNat)
      case atStart => exact ⟨l.length, rfl, hk, a, b, hr'.1, hr'.2.2, hr'.2.1, Lib.hid rfl, HO.out, HT.out, BR.out⟩
      case round =>
        obtain ⟨j, rfl, hj, xx, yy, hx0, hxy, hy1, hB, hown, ht, br⟩ := hrel
        clear BR HO HT
        have hyw : IntKind.i32.wrap (yy + 1) = yy + 1 := IntWalk.i32_in _ ⟨by omega, by omega⟩
        by_cases hlt : j < l.length
        · obtain ⟨g', off', c, d, hpe, hg, hcd, c1, c2⟩ := HP.out.get hlt
          simp only [Option.some.injEq, Addr.mk.injEq, and_true] at hpe
          obtain ⟨rfl, rfl⟩ := hpe
          have G : PG w (l.take l.length) u5 xx yy g (off + j * 2) c d wr := ⟨hown, ht, (br.cell (p := ⟨g, off + j * 2, none⟩) hg).trans c1, (br.cell (p := ⟨g, off + j * 2 + 1, none⟩) hg).trans c2, br, hg⟩
          have hjl : (j : Int) < (l.length : Int) := by omega
          have hj0 : (0 : Int) ≤ (j : Int) := by omega
          have hcd' := HB.out j _ hcd
          unfold Cl.may at hcd'
          simp only at hcd'
          have HC := Lib.hid hcd
          clear hcd hown ht c1 c2 br
          obtain ⟨_, t0, t1, c1, c2⟩ : True ∧ _ ∧ _ ∧ _ ∧ _ := ⟨trivial, G.two.1, G.two.2.1, G.c1, G.c2⟩
          by_cases hlo : c ≤ yy + 1
          · have hlo' : decide (c ≤ yy + 1) = true := decide_eq_true hlo
            have e1 := Lib.hid (abs_more hB.out HC.out hlo)
            have HG := Lib.hid G
            clear G
            go_wp2_with fail
            go_quiet (fail)
            go_wp2_with fail
            have G := HG.out.drewN nq
            clear HG t0 t1 c1 c2
            generalize wr.drewN nq = wq at G ⊢
            obtain ⟨_, t0, t1, c1, c2⟩ : True ∧ _ ∧ _ ∧ _ ∧ _ := ⟨trivial, G.two.1, G.two.2.1, G.c1, G.c2⟩
            have HG := Lib.hid G
            clear G
            go_still_tail 8, (by kernel_rfl)
            change wpList _ _ _ _ _ wq.drew
            have G := HG.out.drew
            clear HG t0 t1 c1 c2
            generalize wq.drew = wd at G ⊢
            obtain ⟨_, t0, t1, c1, c2, f0⟩ : True ∧ _ ∧ _ ∧ _ ∧ _ ∧ _ := ⟨trivial, G.two.1, G.two.2.1, G.c1, G.c2, G.two.2.2.1 0⟩
            have HG := Lib.hid G
            clear G
            go_wp2_with fail
            have G := HG.out.set0 (min xx c)
            clear HG t0 t1 c1 c2 f0
            generalize wd.setCell ⟨w.heap.size, 0, none⟩ (.int .i32 (min xx c)) = wq at G ⊢
            obtain ⟨_, t0, t1, c1, c2⟩ : True ∧ _ ∧ _ ∧ _ ∧ _ := ⟨trivial, G.two.1, G.two.2.1, G.c1, G.c2⟩
            have HG := Lib.hid G
            clear G
            go_still_tail 8, (by kernel_rfl)
            change wpList _ _ _ _ _ wq.drew
            have G := HG.out.drew
            clear HG t0 t1 c1 c2
            generalize wq.drew = wd at G ⊢
            obtain ⟨_, t0, t1, c1, c2, f1⟩ : True ∧ _ ∧ _ ∧ _ ∧ _ ∧ _ := ⟨trivial, G.two.1, G.two.2.1, G.c1, G.c2, G.two.2.2.1 1⟩
            have HG := Lib.hid G
            clear G
            go_wp2_with fail
            have G := HG.out.set1 (max yy d)
            clear HG t0 t1 c1 c2 f1
            generalize wd.setCell ⟨w.heap.size, 1, none⟩ (.int .i32 (max yy d)) = wq at G ⊢
            go_roundw
            case rel => exact ⟨j + 1, by go_num, by omega, min xx c, max yy d, by omega, by omega, by omega, e1, G.own, G.two, G.bel⟩
            case measure => simp [intOf]; omega
          · have hlo' : decide (c ≤ yy + 1) = false := decide_eq_false hlo
            have e1 := Lib.hid (abs_end hB.out (.inr ⟨_, _, HC.out, hlo⟩))
            have OW := Lib.hid G.own
            have BE := Lib.hid G.bel
            have ts := G.two.2.2.2
            clear G
            go_wp2_with fail
            go_quiet (fail)
            have OW := Lib.hid (OW.out.drewN nq)
            have BE := Lib.hid (bdrewN (n := nq) BE.out)
            have t0 : (wr.drewN nq).cell? ⟨w.heap.size, 0, none⟩ = some (.int .i32 xx) := t0
            have t1 : (wr.drewN nq).cell? ⟨w.heap.size, 1, none⟩ = some (.int .i32 yy) := t1
            have ts : w.heap.size < (wr.drewN nq).heap.size := ts
            generalize wr.drewN nq = wq at OW BE t0 t1 ts ⊢
            go_wp2_with (at_builtin; refine append_pair rfl _ _ 26 rfl (w.heap.size + 1) 56 Tryd.underlying26 Tryd.infoQ _ _ (l.take l.length) _ _ rfl (by exact OW.out) rfl ?d1 ?d2 ?_)
            case d1 => rw [take_len hk]; omega
            case d2 => have := ts; simp; omega
            · intro v' w' hown' hg
              have b3 := below_own BE.out OW.out (by omega) (by have := ts; omega) hg
              have s3 : w.heap.size + 1 ≤ w'.heap.size := by have := hg.size; omega
              have hown'' : OwnP w' (w.heap.size + 1) 56 v' (l.take l.length ++ [(xx, yy)]) := by first | exact hown' | simpa using hown'
              have HO' := Lib.hid hown''
              clear hown' hown'' hg OW BE t0 t1
              have hjl : (j : Int) ≤ (l.length : Int) := by omega
              have hj0 : (0 : Int) ≤ (j : Int) := by omega
              have hlc : (l.length : Int) ≤ (cap : Int) := by omega
              have hrow := (HP.out.below (b3)).drop j
              go_wp2_with (at_builtin; refine append_row rfl _ _ 26 rfl (w.heap.size + 1) 56 Tryd.underlying26 Tryd.infoQ _ _ (l.take l.length ++ [(xx, yy)]) (l.drop j) (some ⟨g, off + j * 2, none⟩) (cap - j) rfl (by first | exact HO'.out | simpa using HO'.out) (by simp [Act.eval]) hrow (.inr ⟨_, _, rfl⟩) ?f4 s3 ?_)
              case f4 => simp; omega
              intro v2 w2 hown2 hg2
              have b4 := below_own b3 HO'.out (by omega) (by omega) hg2
              have HO2 := Lib.hid hown2
              clear hown2 hg2 HO' b3 hrow
              go_wp2_with fail
              go_ret
              refine ⟨v2, rfl, ?_, b4⟩
              rw [E.out, e1.out]
              simpa [List.append_assoc] using HO2.out.mono (Nat.le_succ _)
        · have hje : j = l.length := by omega
          have e1 := Lib.hid (abs_end hB.out (.inl hje))
          have hjf : decide ((j : Int) < (l.length : Int)) = false := decide_eq_false (by omega)
          have hjf' : (l.length : Int) ≤ (j : Int) := by omega
          have OW := Lib.hid hown
          have BE := Lib.hid br
          obtain ⟨t0, t1, _, ts⟩ := ht
          clear hown br
          go_wp2_with fail
          go_quiet (fail)
          have OW := Lib.hid (OW.out.drewN nq)
          have BE := Lib.hid (bdrewN (n := nq) BE.out)
          have t0 : (wr.drewN nq).cell? ⟨w.heap.size, 0, none⟩ = some (.int .i32 xx) := t0
          have t1 : (wr.drewN nq).cell? ⟨w.heap.size, 1, none⟩ = some (.int .i32 yy) := t1
          have ts : w.heap.size < (wr.drewN nq).heap.size := ts
          generalize wr.drewN nq = wq at OW BE t0 t1 ts ⊢
          go_wp2_with (at_builtin; refine append_pair rfl _ _ 26 rfl (w.heap.size + 1) 56 Tryd.underlying26 Tryd.infoQ _ _ (l.take l.length) _ _ rfl (by exact OW.out) rfl ?d1 ?d2 ?_)
          case d1 => rw [take_len hk]; omega
          case d2 => have := ts; simp; omega
          · intro v' w' hown' hg
            have b3 := below_own BE.out OW.out (by omega) (by have := ts; omega) hg
            have s3 : w.heap.size + 1 ≤ w'.heap.size := by have := hg.size; omega
            have hown'' : OwnP w' (w.heap.size + 1) 56 v' (l.take l.length ++ [(xx, yy)]) := by first | exact hown' | simpa using hown'
            have HO' := Lib.hid hown''
            clear hown' hown'' hg OW BE t0 t1
            have hjl : (j : Int) ≤ (l.length : Int) := by omega
            have hj0 : (0 : Int) ≤ (j : Int) := by omega
            have hlc : (l.length : Int) ≤ (cap : Int) := by omega
            have hdr : l.drop j = [] := by rw [hje]; simp
            have e2 : Cl.absorb (l.drop l.length) (a, b) = ((xx, yy), []) := by rw [e1.out, hdr]
            have E2 := Lib.hid e2
            clear e1 hdr e2
            by_cases hcl : cap = l.length
            · go_wp2_with (at_builtin; refine append_row rfl _ _ 26 rfl (w.heap.size + 1) 56 Tryd.underlying26 Tryd.infoQ _ _ (l.take l.length ++ [(xx, yy)]) [] (some ⟨g, off, none⟩) (cap - l.length) rfl (by first | exact HO'.out | simpa using HO'.out) (by simp [Act.eval, hje, hcl]) (RowP.nil _ _) (.inr ⟨_, _, rfl⟩) ?f4 s3 ?_)
              case f4 => simp; omega
              intro v2 w2 hown2 hg2
              have b4 := below_own b3 HO'.out (by omega) (by omega) hg2
              have HO2 := Lib.hid hown2
              clear hown2 hg2 HO' b3
              go_wp2_with fail
              go_ret
              refine ⟨v2, rfl, ?_, b4⟩
              rw [E.out, E2.out]
              simpa using HO2.out.mono (Nat.le_succ _)
            · go_wp2_with (at_builtin; refine append_row rfl _ _ 26 rfl (w.heap.size + 1) 56 Tryd.underlying26 Tryd.infoQ _ _ (l.take l.length ++ [(xx, yy)]) [] (some ⟨g, off + l.length * 2, none⟩) (cap - l.length) rfl (by first | exact HO'.out | simpa using HO'.out) (by simp [Act.eval, hje, hcl]) (RowP.nil _ _) (.inr ⟨_, _, rfl⟩) ?f4 s3 ?_)
              case f4 => simp; omega
              intro v2 w2 hown2 hg2
              have b4 := below_own b3 HO'.out (by omega) (by omega) hg2
              have HO2 := Lib.hid hown2
              clear hown2 hg2 HO' b3
              go_wp2_with fail
              go_ret
              refine ⟨v2, rfl, ?_, b4⟩
              rw [E.out, E2.out]
              simpa using HO2.out.mono (Nat.le_succ _)
end Go.Proofs.YtpnakbhbaghhgaaDoor
