import Derived.Test.YtfibhhegfhikmaaGreatDoorJPLF
import Derived.Test.YtfibhhegfhikmaaGreatDoorJSynM12
import Derived.Lib.MinMax
import Derived.Test.YtfibhhegfhikmaaGreatDoorJSynV
import Derived.Test.YtfibhhegfhikmaaGreatDoorJSynM10
import Derived.Test.YtfibhhegfhikmaaGreatDoorJPLArg
set_option linter.unusedSimpArgs false
set_option linter.unusedVariables false
section
/- Letters, piece by piece. -/
set_option linter.unusedVariables false
namespace Go.Proofs.YtfibhhegfhikmaaGreatDoor
open Go.RowKit
open Sx (Nd)

/- a text of k letters, none of them special -/
def LetText (k : Nat) (ws : List Int) (t : ByteArray) : Prop := t.data.toList = Sx.catT ws ∧ Sx.OkT ws ∧ Sx.Letters ws ∧ (∀ r ∈ ws, r ≤ 1114111) ∧ ws.length = k ∧ t.size ≤ 3 * k
theorem LetText.nil : LetText 0 [] ⟨#[]⟩ := ⟨rfl, Sx.OkT.nil, fun x h => (by cases h), fun x h => (by cases h), rfl, by decide⟩
theorem LetText.more {k : Nat} {ws : List Int} {t q : ByteArray} (h : LetText k ws t) (r : Int) (hq : q.data.toList = Sx.catT [r]) (hr : (decide (r = -1) || Rn.rightB r) = true) (hl : Sx.special r = false ∧ 0 ≤ r) (hm : r ≤ 1114111) (hz : q.size ≤ 3) : LetText (k + 1) (ws ++ [r]) (t ++ q) := by
  obtain ⟨h1, h2, h3, h4, h5, h6⟩ := h
  refine ⟨?_, ?_, ?_, ?_, ?_, ?_⟩
  · rw [ByteArray.data_append, Array.toList_append, h1, hq, Sx.catT_app]
  · exact h2.app (fun y hy => by rw [List.mem_singleton.1 hy]; simpa using hr)
  · intro y hy
    rcases List.mem_append.1 hy with hy | hy
    · exact h3 y hy
    · rw [List.mem_singleton.1 hy]; exact hl
  · intro y hy
    rcases List.mem_append.1 hy with hy | hy
    · exact h4 y hy
    · rw [List.mem_singleton.1 hy]; exact hm
  · rw [List.length_append, h5]; rfl
  · rw [ByteArray.size_append]; omega
/- letters gathered, at most m -/
def Lets (m len : Nat) (B0 : Nat) (w0 : World) (s : Value) (wr : World) : Prop := ∃ (k : Nat) (t : ByteArray) (ws : List Int), k = min len m ∧ s = .string t ∧ LetText k ws t ∧ Lw B0 w0 wr
theorem wrong_text {k : Nat} {ws : List Int} {t q : ByteArray} {x : List Int × Nat} (h : LetText k ws t) (hk : k ≤ 20) (hx : x ∈ Sx.wrongs) (hq : q.data.toList = Sx.catT x.1) (hz : q.size ≤ 7) {a : Int} (ha : (t.size : Int) + ((x.1.length - x.2 : Nat) : Int) = a) : Sx.Parsed (t ++ q) Sx.empty a 2 := by
  obtain ⟨h1, h2, h3, h4, h5, h6⟩ := h
  have hs : (t ++ q).data.toList = Sx.catT (ws ++ x.1) := by rw [ByteArray.data_append, Array.toList_append, h1, hq, Sx.catT_app]
  have := Sx.wrong_parsed h3 h2 hx hs (by rw [ByteArray.size_append]; omega)
  have hl : t.size = (Sx.catT ws).length := by rw [← h1]; rfl
  rw [← ha, hl]
  rw [← Int.natCast_add] at *
  exact this
end Go.Proofs.YtfibhhegfhikmaaGreatDoor
end

section
/- Letters alone, and behind them one that is special. -/
set_option linter.unusedVariables false
namespace Go.Proofs.YtfibhhegfhikmaaGreatDoor
open Go.RowKit
open Sx (Nd)

/- a backslash and one that is special -/
def SpecText (c : Int) (T : ByteArray) : Prop := Sx.special c = true ∧ 0 ≤ c ∧ c ≤ 1114111 ∧ Rn.rightB c = true ∧ T.data.toList = Sx.catT [92, c] ∧ T.size = 2
theorem bs_of {l : List Int} {t : ByteArray} (h : t.data.toList = Sx.catT l) (hk : Sx.OkT l) (h0 : ∀ r ∈ l, 0 ≤ r) : bs l = t := by
  have hl : Sx.OkL l := fun x hx => (hk x hx).resolve_left (fun e => by have := h0 x hx; omega)
  rw [Sx.catT_cat hl] at h
  show (⟨(Rn.cat l).toArray⟩ : ByteArray) = t
  rw [← h]
theorem let_plain {k : Nat} {ws : List Int} {t : ByteArray} (h : LetText k ws t) (hk : k ≤ 40) : ∃ n, Sx.Parsed t n t.size 0 ∧ Sx.right n ∧ bs (Sx.put n) = t ∧ (nsz n : Int) = (if k = 1 then 1 else (k : Int) + 1) := by
  obtain ⟨h1, h2, h3, h4, h5, h6⟩ := h
  obtain ⟨he, hF, hp, hs⟩ := Sx.letters_parsed h3 h4
  have ht := (Sx.backT h2 h1).2.2
  refine ⟨_, .ok _ 0 (by omega) (by rw [ht]; exact he), Sx.form_right hF (by decide), by rw [hp]; exact bs_of h1 h2 (fun r hr => (h3 r hr).2), ?_⟩
  rw [← size_nsz, hs, h5]
  split <;> omega
theorem let_special {k : Nat} {ws : List Int} {t T : ByteArray} {c : Int} (h : LetText k ws t) (hk : k ≤ 40) (hT : SpecText c T) : ∃ n, Sx.Parsed (t ++ T) n ((t.size : Int) + 2) 0 ∧ Sx.right n ∧ bs (Sx.put n) = t ++ T ∧ (1 ≤ k → (nsz n : Int) = (k : Int) + 2) ∧ Sx.groups n = 0 := by
  obtain ⟨h1, h2, h3, h4, h5, h6⟩ := h
  obtain ⟨t1, t2, t3, t4, t5, t6⟩ := hT
  obtain ⟨he, hF, hp, hs⟩ := Sx.letters_special h3 h4 t1 t2 t3
  have hk' : Sx.OkT (ws ++ [92, c]) := h2.app (fun y hy => by
    rcases List.mem_cons.1 hy with rfl | hy
    · exact .inr (by decide)
    · rw [List.mem_singleton.1 hy]; exact .inr t4)
  have hb : (t ++ T).data.toList = Sx.catT (ws ++ [92, c]) := by rw [ByteArray.data_append, Array.toList_append, h1, t5, Sx.catT_app]
  have ht := (Sx.backT hk' hb).2.2
  have hz : (t ++ T).size = t.size + 2 := by rw [ByteArray.size_append, t6]
  have hpos : ∀ r ∈ ws ++ [92, c], 0 ≤ r := fun r hr => by
    rcases List.mem_append.1 hr with hr | hr
    · exact (h3 r hr).2
    · rcases List.mem_cons.1 hr with rfl | hr
      · decide
      · rw [List.mem_singleton.1 hr]; exact t2
  refine ⟨_, ?_, Sx.form_right hF (by decide), by rw [hp]; exact bs_of hb hk' hpos, fun h1k => ?_, ?_⟩
  · have := Sx.Parsed.ok (s := t ++ T) _ 0 (by omega) (by rw [ht]; exact he)
    rw [hz] at this
    exact this
  · rw [← size_nsz, hs (by omega), h5]
  · rw [Sx.form_groups hF (by decide)]; rfl
end Go.Proofs.YtfibhhegfhikmaaGreatDoor
end

section
/- Letters, groups and repetitions, each so often. -/
set_option linter.unusedVariables false
namespace Go.Proofs.YtfibhhegfhikmaaGreatDoor
open Go.RowKit
open Sx (Nd)

/- a text, by its runes; at most so long -/
def TxtIs (ws : List Int) (b : Nat) (t : ByteArray) : Prop := t.data.toList = Sx.catT ws ∧ t.size ≤ b
theorem TxtIs.nil : TxtIs [] 0 ⟨#[]⟩ := ⟨rfl, by decide⟩
theorem TxtIs.app {ws us vs : List Int} {b c : Nat} {t q : ByteArray} (h : TxtIs ws b t) (hq : q.data.toList = Sx.catT us) (hz : q.size ≤ c) (hv : vs = ws ++ us) : TxtIs vs (b + c) (t ++ q) := by
  subst hv
  exact ⟨by rw [ByteArray.data_append, Array.toList_append, h.1, hq, Sx.catT_app], by rw [ByteArray.size_append]; have := h.2; omega⟩
theorem TxtIs.le {ws : List Int} {b c : Nat} {t : ByteArray} (h : TxtIs ws b t) (hc : b ≤ c) : TxtIs ws c t := ⟨h.1, Nat.le_trans h.2 hc⟩
theorem g1_next (j : Nat) : List.replicate (j + 1) (97 : Int) = List.replicate j 97 ++ [97] := List.replicate_succ'
theorem g2_next (n j : Nat) : Sx.szText n (j + 1) 0 = Sx.szText n j 0 ++ [40, 98, 41] := by
  unfold Sx.szText
  rw [List.replicate_succ', List.flatten_append]
  simp
theorem g2_zero (n : Nat) : List.replicate n (97 : Int) = Sx.szText n 0 0 := by unfold Sx.szText; simp
theorem g3_next (n m j : Nat) : Sx.szText n m (j + 1) = Sx.szText n m j ++ Sx.rtext j := by
  unfold Sx.szText
  rw [List.range_succ, List.flatMap_append]
  simp
theorem sz_runes {n m k : Nat} : ∀ r ∈ Sx.szText n m k, 0 ≤ r ∧ Rn.rightB r = true := by
  intro r hr
  unfold Sx.szText at hr
  rcases List.mem_append.1 hr with hr | hr
  · rcases List.mem_append.1 hr with hr | hr
    · rw [(List.mem_replicate.1 hr).2]; decide
    · obtain ⟨l, hl, hr⟩ := List.mem_flatten.1 hr
      rw [(List.mem_replicate.1 hl).2] at hr
      simp at hr
      rcases hr with rfl | rfl | rfl <;> decide
  · obtain ⟨i, _, hr⟩ := List.mem_flatMap.1 hr
    unfold Sx.rtext at hr
    split at hr
    · simp at hr; rcases hr with rfl | rfl <;> decide
    · split at hr
      · simp at hr; rcases hr with rfl | rfl | rfl <;> decide
      · split at hr
        · simp at hr; rcases hr with rfl | rfl | rfl | rfl <;> decide
        · simp at hr; rcases hr with rfl | rfl <;> decide
theorem sz_text {n m k b : Nat} {t : ByteArray} (h : TxtIs (Sx.szText n m k) b t) (hb : b ≤ 200) (h2 : 2 ≤ n) (h8 : m ≤ 8) : ∃ N, Sx.Parsed t N t.size 0 ∧ Sx.right N ∧ bs (Sx.put N) = t ∧ (nsz N : Int) = 1 + (n : Int) + 2 * (m : Int) + 2 * (k : Int) ∧ Sx.groups N = (m : Int) := by
  obtain ⟨he, hF, hp, hs, hg⟩ := Sx.sz_all n m k h2 h8
  have hk : Sx.OkT (Sx.szText n m k) := fun r hr => .inr (sz_runes r hr).2
  have ht := (Sx.backT hk h.1).2.2
  refine ⟨_, .ok _ m (by have := h.2; omega) (by rw [ht]; exact he), Sx.form_right hF (by decide), by rw [hp]; exact bs_of h.1 hk (fun r hr => (sz_runes r hr).1), ?_, hg⟩
  rw [← size_nsz, hs]
end Go.Proofs.YtfibhhegfhikmaaGreatDoor
end

section
namespace Go.Proofs.YtfibhhegfhikmaaGreatDoor.Sx
open Go.Proofs.YtfibhhegfhikmaaGreatDoor
open Rn
theorem up_len : ∀ (k : Nat) (g : Int), (up g k).length = k
  | 0, g => rfl
  | k + 1, g => by rw [up, List.length_cons, up_len k]
theorem up_get : ∀ (k : Nat) (g : Int) (i : Nat), i < k → (up g k)[i]? = some (g + 1 + i)
  | 0, g, i, h => by omega
  | k + 1, g, 0, h => by simp [up]
  | k + 1, g, i + 1, h => by
    rw [up, List.getElem?_cons_succ, up_get k (g + 1) i (by omega)]
    congr 1; omega
end Go.Proofs.YtfibhhegfhikmaaGreatDoor.Sx
/- The groups of a tree, as they stand. -/
set_option linter.unusedVariables false
namespace Go.Proofs.YtfibhhegfhikmaaGreatDoor
open Go.RowKit
open Sx (Nd)

def i64s (ws : List Int) : List Value := ws.map (Value.int .i64)
theorem i64s_app (a b : List Int) : i64s (a ++ b) = i64s a ++ i64s b := by simp [i64s]
theorem Tryz.infoI64 : (Tryz.prog.info? 3).map (fun i => (i.zero, i.size, i.bytes)) = some (some (.int .i64 0), 1, 8) := by kernel_rfl
/- a row of numbers of the call's own -/
def OwnI (w : World) (base : Nat) (v : Value) (xs : List Int) : Prop := w.ownsRow base 3 1 v xs.length (i64s xs)
theorem OwnI.alloc {w : World} {base : Nat} {v : Value} {xs : List Int} (h : OwnI w base v xs) (o : Obj) : OwnI (w.alloc o) base v xs := World.ownsRow.alloc h o
theorem glists_take {l : List Nd} {i : Nat} {n : Nd} (h : l[i]? = some n) : Sx.glists (l.take (i + 1)) = Sx.glists (l.take i) ++ Sx.glist n := by
  have hi := (List.getElem?_eq_some_iff.1 h).1
  have hv := (List.getElem?_eq_some_iff.1 h).2
  have app : ∀ (a b : List Nd), Sx.glists (a ++ b) = Sx.glists a ++ Sx.glists b := fun a b => by
    induction a with
    | nil => rw [List.nil_append, Sx.glists, List.nil_append]
    | cons x t ih => rw [List.cons_append, Sx.glists, Sx.glists, ih, List.append_assoc]
  rw [List.take_succ_eq_append_getElem hi, hv, app, Sx.glists, Sx.glists, List.append_nil]
theorem glists_le : ∀ {l : List Nd} (i : Nat), (Sx.glists (l.take i)).length ≤ (Sx.glists l).length
  | [], i => by simp
  | n :: t, 0 => by simp [Sx.glists]
  | n :: t, i + 1 => by rw [List.take_succ_cons, Sx.glists, Sx.glists, List.length_append, List.length_append]; have := glists_le (l := t) i; omega
/- 'append(l, x)' of a number, beside it the row is where it was, or new -/
theorem append_int {ops : Array Oper} {rest : List Oper} {o : Oper} {a : Act} {Q : Exit → Act → World → Prop} (hgd : o.guard = none) (s x : Operand) (t : TypeId)
    (ho : o.op = .call { callee := .builtin .append, args := #[s, x], argTypes := #[t, t] }) (ht : Tryz.prog.underlying t = some (.slice 3))
    (base : Nat) (w : World) (v : Value) (xs : List Int) (d : Int) (hs : a.eval s = v) (hown : OwnI w base v xs)
    (hx : a.eval x = .slice (some ⟨w.heap.size, 0, none⟩) 1 1) (hl : xs.length ≤ 1000000) (hbase : base ≤ w.heap.size)
    (h : ∀ v' w', OwnI w' base v' (xs ++ [d]) → Grew w v w' v' → wpList Tryz.prog ops Q rest (a.put o.dst v') w') : wpList Tryz.prog ops Q (o :: rest) a (w.alloc (.cells #[.int .i64 d] 3)) := by
  obtain ⟨i0, hi, hz0, hz1, hz2⟩ := info_parts Tryz.infoI64
  refine wpList_append_new _ hgd s x t ho base 3 i0 _ 1 8 ht hi hz0 hz1 hz2 rfl (by decide) v xs.length (i64s xs) hs (World.ownsRow.alloc hown _) ⟨w.heap.size, 0, none⟩ 1 1 [.int .i64 d] hx rfl (fun j u hj => ?_) (by intro u hu; simp at hu; subst hu; rfl) (by unfold maxLen; omega) (by omega) (by simp; omega) ?_
  · cases j with
    | zero => simp at hj; subst hj; rw [Addr.add_defn, World.cell?_alloc_at _ _ _ _ rfl]; rfl
    | succ j => simp at hj
  · intro v' w' hown' hg hf
    exact h v' w' (by unfold OwnI; rw [List.length_append, i64s_app]; exact hown') ((Grew.alloc w v _).trans ⟨hg, hf⟩)
set_option maxRecDepth 20000 in
set_option maxHeartbeats 8000000 in
theorem grps_any : ∀ (N : Nat) (n : Nd), nsz n ≤ N → ∀ (u v : Value) (w0 w : World) (xs : List Int), NodeV w0 u n → Below w0.heap.size w0 w → OwnI w w0.heap.size v xs → xs.length + (Sx.glist n).length ≤ 1000000 →
    Calls Tryz.prog 49 #[u, v] w fun e w' => ∃ v', e = .returned v' ∧ OwnI w' w0.heap.size v' (xs ++ Sx.glist n) ∧ Grew w v w' v' := by
  intro N
  induction N with
  | zero => intro n hn; have := nsz_pos n; omega
  | succ N ih =>
    intro n hN u v w0 w xs hu hb hv hz
    obtain ⟨k, c, mn, mx, lz, g, kids, p, cap, q, cap', rfl, rfl, i1, i2, i3, i4, hc, hr, hk, hp, hq⟩ := node_open hu
    have HQ := Lib.hid hq
    have HV := Lib.hid hv
    have HB := Lib.hid hb
    have hN' : nszs kids ≤ N := by rw [nsz] at hN; omega
    have IH := Lib.hid ih
    have hb0 := hb.size
    have HL := Lib.hid (show Sx.glist (.mk k c mn mx lz g kids) = (if k = 9 then [g] else []) ++ Sx.glists kids by rw [Sx.glist])
    rw [HL.out, List.length_append] at hz
    clear hu hp hq hr i1 i2 i3 i4 ih hN hv hb
    unfold ndv
    have loopok : True := trivial
    by_cases h9 : k = 9
    · subst h9
      rw [if_pos rfl, List.length_singleton] at hz
      go_enter Tryz.func49, Tryz.ntmps49
      go_wp2_with (at_builtin; refine append_int rfl _ _ 56 rfl Tryz.underlying56 w0.heap.size _ v xs g rfl (HV.out.alloc _) (by rw [World.size_alloc]; rfl) (by omega) (by rw [World.size_alloc]; omega) ?d2)
      case d2 =>
        intro v1 w1 hown hg
        have HP9 : (if (9 : Int) = 9 then [g] else []) = [g] := if_pos rfl
        have HOa := Lib.hid hown
        have HGa := Lib.hid hg
        clear hown hg
        go_wp2_with fail
        go_loopw [1, 5] (fun vv i wr => ∃ m : Nat, i = .int .i64 (m : Int) ∧ m ≤ kids.length ∧ OwnI wr w0.heap.size vv (xs ++ [g] ++ Sx.glists (kids.take m)) ∧ Grew (w.alloc (.cells #[.int .i64 9, .slice p c.length cap, .int .i64 mn, .int .i64 mx, .bool lz, .int .i64 g, .slice q kids.length cap'] 29)) v wr vv) (fun _ i _ => kids.length - (intOf i).toNat)
        case atStart => exact ⟨0, rfl, Nat.zero_le _, by simpa [Sx.glists] using HOa.out, HGa.out⟩
        case round =>
          obtain ⟨m, rfl, hm, ho, hg⟩ := hrel
          have bW : Below w0.heap.size w0 (w.alloc (.cells #[.int .i64 9, .slice p c.length cap, .int .i64 mn, .int .i64 mx, .bool lz, .int .i64 g, .slice q kids.length cap'] 29)) := Below.alloc HB.out (by omega) _
          have br := hg.below bW (HV.out.alloc _)
          have hs7 := (Seven.box w 9 (.slice p c.length cap) mn mx lz g (.slice q kids.length cap') 29).block (hg.block (by simp) (fun e => by have := (HV.out.lt _ e).2; omega))
          obtain ⟨e0, e1, e2, e3, e4, e5, e6⟩ := hs7
          simp only [Nat.zero_add] at e0 e1 e2 e3 e4 e5 e6
          have HO := Lib.hid ho
          have HG := Lib.hid hg
          clear ho hg bW
          by_cases hlt : m < kids.length
          · obtain ⟨x, hx⟩ : ∃ x, kids[m]? = some x := ⟨_, List.getElem?_eq_getElem hlt⟩
            obtain ⟨b, o, k', vc', mn', mx', lz', g', vl', rfl, hb, f7, hx'⟩ := HQ.out.get hx
            have hle := nszs_mem hx
            have hst := Lib.hid (glists_take hx)
            have hgl := glists_le (l := kids) (m + 1)
            rw [hst.out, List.length_append] at hgl
            have hml : (m : Int) < (kids.length : Int) := by omega
            have HX := Lib.hid hx'
            have hb1 := br.size
            obtain ⟨f0, f1, f2, f3, f4, f5, f6⟩ := f7.below br hb
            have hlen : (xs ++ [g] ++ Sx.glists (kids.take m)).length + (Sx.glist x).length ≤ 1000000 := by
              simp only [List.length_append, List.length_cons, List.length_nil] at hz ⊢; omega
            have HBR := Lib.hid br
            clear hx hx' f7 br
            go_wp2_with fail
            refine (IH.out x (by omega) _ _ w0 _ _ HX.out HBR.out HO.out hlen).mono ?_
            rintro e w1 ⟨v1, rfl, ho1, hg1⟩
            have HG1 := Lib.hid (HG.out.trans hg1)
            have HO1 := Lib.hid (show OwnI w1 w0.heap.size v1 (xs ++ [g] ++ Sx.glists (kids.take (m + 1))) by rw [hst.out, ← List.append_assoc]; exact ho1)
            clear hg1 ho1
            go_wp2_with fail
            go_roundw
            case rel => exact ⟨m + 1, by go_num, by omega, HO1.out, HG1.out⟩
            case measure => simp [intOf]; omega
          · obtain rfl : m = kids.length := by omega
            have HF := Lib.hid (show xs ++ [g] ++ Sx.glists (kids.take kids.length) = xs ++ Sx.glist (.mk 9 c mn mx lz g kids) by rw [List.take_length, HL.out, HP9, List.append_assoc])
            have HO1 := Lib.hid (HF.out ▸ HO.out)
            go_wp2_with fail
            go_ret
            exact ⟨_, rfl, HO1.out, (Grew.alloc w v _).trans HG.out⟩
    · rw [if_neg h9, List.length_nil] at hz
      have HP9 : (if k = 9 then [g] else []) = [] := if_neg h9
      have h9' : (k == 9) = false := beq_eq_false_iff_ne.2 h9
      go_enter Tryz.func49, Tryz.ntmps49
      go_wp2_with fail
      go_loopw [1, 5] (fun vv i wr => ∃ m : Nat, i = .int .i64 (m : Int) ∧ m ≤ kids.length ∧ OwnI wr w0.heap.size vv (xs ++ [] ++ Sx.glists (kids.take m)) ∧ Grew (w.alloc (.cells #[.int .i64 k, .slice p c.length cap, .int .i64 mn, .int .i64 mx, .bool lz, .int .i64 g, .slice q kids.length cap'] 29)) v wr vv) (fun _ i _ => kids.length - (intOf i).toNat)
      case atStart => exact ⟨0, rfl, Nat.zero_le _, by simpa [Sx.glists] using HV.out.alloc _, Grew.refl _ _⟩
      case round =>
        obtain ⟨m, rfl, hm, ho, hg⟩ := hrel
        have bW : Below w0.heap.size w0 (w.alloc (.cells #[.int .i64 k, .slice p c.length cap, .int .i64 mn, .int .i64 mx, .bool lz, .int .i64 g, .slice q kids.length cap'] 29)) := Below.alloc HB.out (by omega) _
        have br := hg.below bW (HV.out.alloc _)
        have hs7 := (Seven.box w k (.slice p c.length cap) mn mx lz g (.slice q kids.length cap') 29).block (hg.block (by simp) (fun e => by have := (HV.out.lt _ e).2; omega))
        obtain ⟨e0, e1, e2, e3, e4, e5, e6⟩ := hs7
        simp only [Nat.zero_add] at e0 e1 e2 e3 e4 e5 e6
        have HO := Lib.hid ho
        have HG := Lib.hid hg
        clear ho hg bW
        by_cases hlt : m < kids.length
        · obtain ⟨x, hx⟩ : ∃ x, kids[m]? = some x := ⟨_, List.getElem?_eq_getElem hlt⟩
          obtain ⟨b, o, k', vc', mn', mx', lz', g', vl', rfl, hb, f7, hx'⟩ := HQ.out.get hx
          have hle := nszs_mem hx
          have hst := Lib.hid (glists_take hx)
          have hgl := glists_le (l := kids) (m + 1)
          rw [hst.out, List.length_append] at hgl
          have hml : (m : Int) < (kids.length : Int) := by omega
          have HX := Lib.hid hx'
          have hb1 := br.size
          obtain ⟨f0, f1, f2, f3, f4, f5, f6⟩ := f7.below br hb
          have hlen : (xs ++ [] ++ Sx.glists (kids.take m)).length + (Sx.glist x).length ≤ 1000000 := by
            simp only [List.length_append, List.length_cons, List.length_nil] at hz ⊢; omega
          have HBR := Lib.hid br
          clear hx hx' f7 br
          go_wp2_with fail
          refine (IH.out x (by omega) _ _ w0 _ _ HX.out HBR.out HO.out hlen).mono ?_
          rintro e w1 ⟨v1, rfl, ho1, hg1⟩
          have HG1 := Lib.hid (HG.out.trans hg1)
          have HO1 := Lib.hid (show OwnI w1 w0.heap.size v1 (xs ++ [] ++ Sx.glists (kids.take (m + 1))) by rw [hst.out, ← List.append_assoc]; exact ho1)
          clear hg1 ho1
          go_wp2_with fail
          go_roundw
          case rel => exact ⟨m + 1, by go_num, by omega, HO1.out, HG1.out⟩
          case measure => simp [intOf]; omega
        · obtain rfl : m = kids.length := by omega
          have HF := Lib.hid (show xs ++ [] ++ Sx.glists (kids.take kids.length) = xs ++ Sx.glist (.mk k c mn mx lz g kids) by rw [List.take_length, HL.out, HP9, List.append_assoc])
          have HO1 := Lib.hid (HF.out ▸ HO.out)
          go_wp2_with fail
          go_ret
          exact ⟨_, rfl, HO1.out, (Grew.alloc w v _).trans HG.out⟩
theorem own_nums {w : World} {base : Nat} {v : Value} {xs : List Int} (h : OwnI w base v xs) : ∃ p cap, v = .slice p xs.length cap ∧ ∀ k x, xs[k]? = some x → ∃ b, p = some ⟨b, 0, none⟩ ∧ w.cell? ⟨b, k, none⟩ = some (.int .i64 x) := by
  rcases h.2 with ⟨rfl, h0⟩ | ⟨g, cap, cur, rfl, _⟩
  · have : xs = [] := List.eq_nil_of_length_eq_zero h0
    subst this
    exact ⟨none, 0, rfl, fun k x hx => by simp at hx⟩
  · refine ⟨_, cap, rfl, fun k x hx => ⟨g, rfl, ?_⟩⟩
    have hk := (List.getElem?_eq_some_iff.1 hx).1
    rw [World.ownsRow.cellAt h k (by omega)]
    simp [i64s, hx]
theorem ordered_any (n : Nd) (u : Value) (w : World) (K : Nat) (hu : NodeV w u n) (hK : Sx.glist n = Sx.up 0 K) (hz : K ≤ 1000) :
    Calls Tryz.prog 27 #[u] w fun e w' => e = .returned (.int .i64 (K : Int)) ∧ Below w.heap.size w w' := by
  have hlen : (Sx.glist n).length = K := by rw [hK, Sx.up_len]
  have HU := Lib.hid hu
  obtain ⟨k, c, mn, mx, lz, g, kids, p, cap, q, cap', rfl, rfl, _⟩ := node_open hu
  clear hu
  unfold ndv
  go_enter Tryz.func27, Tryz.ntmps27
  go_wp2_with fail
  refine (grps_any _ _ (Nat.le_refl _) _ (.slice none 0 0) w _ [] HU.out (below_new _ _) (World.ownsRow_nil _ _ _ _) (by rw [hlen]; simp; omega)).mono ?_
  rintro e w1 ⟨v1, rfl, ho, hg⟩
  rw [List.nil_append, hK] at ho
  have hb := hg.below (below_new _ _) (World.ownsRow_nil _ _ 3 1)
  obtain ⟨lp, lc, hv, hc⟩ := own_nums ho
  rw [Sx.up_len] at hv
  subst hv
  have HC := Lib.hid hc
  have HB := Lib.hid hb
  clear ho hg hc hb
  go_wp2_with fail
  go_loopw [4] (fun i wr => ∃ m : Nat, i = .int .i64 (m : Int) ∧ m ≤ K ∧ wr = w1) (fun i _ => K - (intOf i).toNat)
  case atStart => exact ⟨0, rfl, Nat.zero_le _, rfl⟩
  case round =>
    obtain ⟨m, rfl, hm, rfl⟩ := hrel
    by_cases hlt : m < K
    · obtain ⟨b, rfl, hcc⟩ := HC.out m _ (Sx.up_get K 0 m hlt)
      have hml : (m : Int) < (K : Int) := by omega
      rw [show (0 : Int) + 1 + (m : Int) = (m : Int) + 1 by omega] at hcc
      go_wp2_with fail
      go_roundw
      case rel => exact ⟨m + 1, by go_num, by omega, by first | rfl | trivial⟩
      case measure => simp [intOf]; omega
    · obtain rfl : m = K := by omega
      go_wp2_with fail
      go_ret
      exact ⟨rfl, HB.out⟩
end Go.Proofs.YtfibhhegfhikmaaGreatDoor
end

section
/- A slice of truth values that came in. -/
set_option linter.unusedVariables false
namespace Go.Proofs.YtfibhhegfhikmaaGreatDoor
open Go.RowKit Go.ChangeShapes Go.WideShapes
def BoolArg (w : World) (a : Option Addr) (len : Nat) : Prop := len = 0 ∨ ∃ g off, a = some ⟨g, off, none⟩ ∧ g < w.heap.size ∧ ∀ i, i < len → ∃ b : Bool, w.cell? ⟨g, off + i, none⟩ = some (.bool b)
theorem BoolArg.below {w w' : World} {a : Option Addr} {len : Nat} (h : BoolArg w a len) (hb : Below w.heap.size w w') : BoolArg w' a len := by
  rcases h with h | ⟨g, off, ha, hg, h⟩
  · exact .inl h
  · refine .inr ⟨g, off, ha, Nat.lt_of_lt_of_le hg hb.size, fun i hi => ?_⟩
    obtain ⟨b, hc⟩ := h i hi
    exact ⟨b, (hb.cell (p := ⟨g, off + i, none⟩) hg).trans hc⟩
theorem boolarg_of {H : Type} {enc : TypeId × Value → H} {w : World} {base : Nat} {spare : Nat → Bool} {held : Bool} {a : Option Addr} {len cap : Nat} {d : DataW H} {p : List MemPlace}
    (k : DataW.Trod enc Tryz.prog w base spare held 57 (.slice a len cap) d p) : BoolArg w a len := by
  obtain ⟨fuel, hf⟩ := k
  rcases DataW.trod_slice Tryz.underlying57 hf with ⟨hcs, _⟩ | ⟨x, l, c, elems, rest, n, _, hcs, _, _, _, _, hlen, hel, _, _⟩
  · simp [Value.cells] at hcs
    exact .inl hcs.2.1
  · simp [Value.cells] at hcs
    obtain ⟨rfl, rfl, rfl⟩ := hcs
    have each : ∀ i, i < len → ∃ b : Bool, w.cell? (x.add i) = some (.bool b) := fun i hi => by
      have h1 := hel i hi
      rw [List.getElem?_eq_getElem (by omega), show Tryz.prog.cellsOf 4 = 1 from by kernel_rfl, Nat.mul_one, Option.bind_eq_some_iff] at h1
      obtain ⟨cs', h2, h3⟩ := h1
      obtain ⟨b, rfl, _⟩ := DataW.trod_bool Tryz.underlying4 h3
      exact ⟨b, cell_of_cells?_one h2⟩
    by_cases h0 : len = 0
    · exact .inl h0
    · obtain ⟨g, off, spot⟩ := x
      obtain ⟨b0, hb0⟩ := each 0 (by omega)
      have hspot : spot = none := by simpa [Addr.add] using World.cell?_spot hb0
      subst hspot
      refine .inr ⟨g, off, rfl, World.block_lt_of_cell? w _ hb0, fun i hi => ?_⟩
      have := each i hi
      simpa [Addr.add_defn] using this
end Go.Proofs.YtfibhhegfhikmaaGreatDoor
end

section
namespace Go.Proofs.YtfibhhegfhikmaaGreatDoor.Sx
open Go.Proofs.YtfibhhegfhikmaaGreatDoor
open Rn
theorem gtext_pre : ∀ l : List Bool, gtext l = gpre l ++ List.replicate (nopen l) 41
  | [] => by simp [gtext, gpre, nopen]
  | true :: t => by rw [gtext, gpre, nopen, gtext_pre t]; rfl
  | false :: t => by rw [gtext, gpre, nopen, gtext_pre t, List.replicate_succ']; simp
theorem gpre_app : ∀ (a b : List Bool), gpre (a ++ b) = gpre a ++ gpre b
  | [], b => rfl
  | true :: t, b => by simp [gpre, gpre_app t b]
  | false :: t, b => by simp [gpre, gpre_app t b]
theorem nopen_app : ∀ (a b : List Bool), nopen (a ++ b) = nopen a + nopen b
  | [], b => by simp [nopen]
  | true :: t, b => by simp [nopen, nopen_app t b]
  | false :: t, b => by simp [nopen, nopen_app t b]; omega
theorem preN_len : ∀ (k : Nat) (l : List Bool), preN k l = (gpre (l.take k)).length
  | 0, l => by simp [preN, gpre]
  | k + 1, [] => by simp [preN, gpre]
  | k + 1, true :: t => by rw [preN, preN_len k t]; simp [gpre]; omega
  | k + 1, false :: t => by rw [preN, preN_len k t]; simp [gpre]; omega
end Go.Proofs.YtfibhhegfhikmaaGreatDoor.Sx
/- Groups that are opened and shut. -/
set_option linter.unusedVariables false
namespace Go.Proofs.YtfibhhegfhikmaaGreatDoor
open Go.RowKit
open Sx (Nd)

/- the groups as they are opened, so far -/
def GT (l : List Bool) (t : ByteArray) : Prop := t.data.toList = Sx.catT (Sx.gpre l) ∧ t.size = (Sx.gpre l).length
theorem GT.nil : GT [] ⟨#[]⟩ := ⟨rfl, rfl⟩
theorem GT.more {l : List Bool} {t : ByteArray} (h : GT l t) : GT (l ++ [false]) (t ++ ⟨#[40, 97]⟩) := by
  refine ⟨?_, ?_⟩
  · rw [ByteArray.data_append, Array.toList_append, h.1, Sx.gpre_app, Sx.catT_app]; rfl
  · rw [ByteArray.size_append, h.2, Sx.gpre_app, List.length_append]; rfl
theorem GT.shut {l : List Bool} {t : ByteArray} (h : GT l t) : GT (l ++ [true]) (t ++ ⟨#[40, 97]⟩ ++ ⟨#[41]⟩) := by
  refine ⟨?_, ?_⟩
  · rw [ByteArray.data_append, ByteArray.data_append, Array.toList_append, Array.toList_append, h.1, Sx.gpre_app, Sx.catT_app, List.append_assoc]; rfl
  · rw [ByteArray.size_append, ByteArray.size_append, h.2, Sx.gpre_app, List.length_append]; rfl
theorem gpre_len : ∀ l : List Bool, (Sx.gpre l).length ≤ 3 * l.length
  | [] => by decide
  | true :: t => by have := gpre_len t; simp only [Sx.gpre, List.length_cons]; omega
  | false :: t => by have := gpre_len t; simp only [Sx.gpre, List.length_cons]; omega
theorem nopen_le : ∀ l : List Bool, Sx.nopen l ≤ l.length
  | [] => by decide
  | true :: t => by have := nopen_le t; simp only [Sx.nopen, List.length_cons]; omega
  | false :: t => by have := nopen_le t; simp only [Sx.nopen, List.length_cons]; omega
theorem nopen_shut (l : List Bool) : Sx.nopen (l ++ [true]) = Sx.nopen l := by rw [Sx.nopen_app]; rfl
theorem nopen_more (l : List Bool) : Sx.nopen (l ++ [false]) = Sx.nopen l + 1 := by rw [Sx.nopen_app]; rfl
theorem preN_at {l : List Bool} {b : Bool} (h : l.length = 8) : Sx.preN 8 (l ++ [b]) = (Sx.gpre l).length := by
  rw [Sx.preN_len, List.take_append_of_le_length (by omega), List.take_of_length_le (by omega)]
theorem preN_on {l : List Bool} {b : Bool} (h : 8 ≤ l.length) : Sx.preN 8 (l ++ [b]) = Sx.preN 8 l := by
  rw [Sx.preN_len, Sx.preN_len, List.take_append_of_le_length h]
def Gr (r : Int) : Prop := r = 40 ∨ r = 97 ∨ r = 41
theorem gpre_runes : ∀ (l : List Bool), ∀ r ∈ Sx.gpre l, Gr r
  | [], r, h => by cases h
  | true :: t, r, h => by
    simp only [Sx.gpre, List.mem_cons] at h
    rcases h with rfl | rfl | rfl | h
    · exact .inl rfl
    · exact .inr (.inl rfl)
    · exact .inr (.inr rfl)
    · exact gpre_runes t r h
  | false :: t, r, h => by
    simp only [Sx.gpre, List.mem_cons] at h
    rcases h with rfl | rfl | h
    · exact .inl rfl
    · exact .inr (.inl rfl)
    · exact gpre_runes t r h
theorem gtext_runes (l : List Bool) : ∀ r ∈ Sx.gtext l, Gr r := fun r h => by
  rw [Sx.gtext_pre] at h
  rcases List.mem_append.1 h with h | h
  · exact gpre_runes l r h
  · exact .inr (.inr (List.mem_replicate.1 h).2)
theorem gr_len : ∀ {l : List Int}, (∀ r ∈ l, Gr r) → (Sx.catT l).length = l.length
  | [], _ => rfl
  | a :: t, h => by
    have ih := gr_len (l := t) (fun r hr => h r (by simp [hr]))
    have e : (Sx.encT a).length = 1 := by rcases h a (by simp) with rfl | rfl | rfl <;> decide
    show (Sx.encT a ++ Sx.catT t).length = _
    rw [List.length_append, e, ih, List.length_cons]; omega
theorem gr_okT {l : List Int} (h : ∀ r ∈ l, Gr r) : Sx.OkT l := fun r hr => by rcases h r hr with rfl | rfl | rfl <;> exact .inr (by decide)
theorem gr_ok {l : List Bool} {t : ByteArray} (h : t.data.toList = Sx.catT (Sx.gtext l)) (hz : t.size ≤ 200) (h8 : l.length ≤ 8) : ∃ N, Sx.Parsed t N t.size 0 ∧ Sx.groups N = (l.length : Int) ∧ Sx.glist N = Sx.up 0 l.length := by
  have ht := (Sx.backT (gr_okT (gtext_runes l)) h).2.2
  exact ⟨_, .ok _ l.length hz (by rw [ht]; exact Sx.groups_parsed l h8), Sx.groups_count l h8⟩
theorem gr_bad {l : List Bool} {t : ByteArray} (h : t.data.toList = Sx.catT (Sx.gtext l)) (hz : t.size ≤ 200) (h8 : 8 < l.length) : Sx.Parsed t Sx.empty ((Sx.preN 8 l : Nat) : Int) 3 := by
  have hk := gr_okT (gtext_runes l)
  have ht := (Sx.backT hk h).2.2
  have hle : Sx.preN 8 l ≤ (Sx.gtext l).length := by
    rw [Sx.preN_len, Sx.gtext_pre, List.length_append]
    have : (Sx.gpre l).length = (Sx.gpre (l.take 8)).length + (Sx.gpre (l.drop 8)).length := by rw [← List.length_append, ← Sx.gpre_app, List.take_append_drop]
    omega
  have hp : Sx.plc t ((Sx.gtext l).length - Sx.preN 8 l) = ((Sx.preN 8 l : Nat) : Int) := by
    rw [Sx.plcT hk h (by omega), show (Sx.gtext l).length - ((Sx.gtext l).length - Sx.preN 8 l) = Sx.preN 8 l by omega, gr_len (fun r hr => gtext_runes l r (List.mem_of_mem_take hr)), List.length_take, Nat.min_eq_left hle]
  rw [← hp]
  exact .bad 3 _ hz (by rw [ht]; exact Sx.groups_many h8)
end Go.Proofs.YtfibhhegfhikmaaGreatDoor
end
