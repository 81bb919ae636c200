/- RunesBack. -/
import Derived.Test.YtaaheinjalakmaaRRow
import Derived.Test.YtaaheinjalakmaaRBackM
set_option linter.unusedVariables false
namespace Go.Proofs.Ytaaheinjalakmaa
open Go.RowKit

/- a slice of uint32 that came in -/
def UArg (w : World) (a : Option Addr) (len : Nat) : Prop := len = 0 ∨ ∃ g off, a = some ⟨g, off, none⟩ ∧ g < w.heap.size ∧ ∀ i, i < len → ∃ c : Int, 0 ≤ c ∧ c ≤ 4294967295 ∧ w.cell? ⟨g, off + i, none⟩ = some (.int .u32 c)
theorem UArg.below {w w' : World} {a : Option Addr} {len : Nat} (h : UArg w a len) (hb : Below w.heap.size w w') : UArg w' a len := by
  rcases h with h | ⟨g, off, ha, hg, h⟩
  · exact .inl h
  · refine .inr ⟨g, off, ha, Nat.lt_of_lt_of_le hg hb.size, fun i hi => ?_⟩
    obtain ⟨c, h0, h1, h2⟩ := h i hi
    exact ⟨c, h0, h1, (hb.cell (p := ⟨g, off + i, none⟩) hg).trans h2⟩
theorem uarg_of {w : World} {x : Addr} {len cap : Nat} {zs : List Int} (hl : len ≤ cap) (hz : zs.length = cap)
    (hcell : ∀ i, i < zs.length → w.cell? (x.add i) = some (.int .u32 (zs.getD i 0))) (hwz : ∀ n ∈ zs, (Lit.int .u32 n).wf = true) : UArg w (some x) len := by
  by_cases h0 : len = 0
  · exact .inl h0
  · obtain ⟨g, off, spot⟩ := x
    have hspot : spot = none := by simpa [Addr.add] using World.cell?_spot (hcell 0 (by omega))
    subst hspot
    have h1 := hcell 0 (by omega)
    refine .inr ⟨g, off, rfl, World.block_lt_of_cell? w _ h1, fun j hj => ?_⟩
    have hj' : j < zs.length := by omega
    have hw := hwz _ (List.getElem_mem hj')
    have hb : 0 ≤ zs[j] ∧ zs[j] ≤ 4294967295 := by simpa [Lit.wf, IntKind.min, IntKind.max, IntKind.signed, IntKind.bits] using hw
    have := hcell j hj'
    rw [Addr.add_defn] at this
    exact ⟨zs[j], hb.1, hb.2, by rw [this]; simp [hj']⟩
/- a row of int32 -/
def i32s (ws : List Int) : List Value := ws.map (Value.int .i32)
def RowI (w : World) (p : Option Addr) (ws : List Int) : Prop := ∀ (i : Nat) (r : Int), ws[i]? = some r → ∃ g, p = some ⟨g, 0, none⟩ ∧ g < w.heap.size ∧ w.cell? ⟨g, i, none⟩ = some (.int .i32 r)
theorem row_i {w : World} {B : Nat} {ty : TypeId} {v : Value} {ws : List Int} (h : w.ownsRow B ty 1 v ws.length (i32s ws)) : ∃ p cap, v = .slice p ws.length cap ∧ ws.length ≤ cap ∧ RowI w p ws := by
  rcases h.2 with ⟨rfl, hn⟩ | ⟨g, cap, cur, rfl, hg, hgg, hc, _⟩
  · have : ws = [] := List.eq_nil_of_length_eq_zero hn
    subst this
    exact ⟨none, 0, rfl, Nat.le_refl _, fun k x hx => by simp at hx⟩
  · refine ⟨_, cap, rfl, hc, fun i r hr => ⟨g, rfl, (Array.getElem?_eq_some_iff.1 hgg).1, ?_⟩⟩
    have hi := (List.getElem?_eq_some_iff.1 hr).1
    rw [h.cellAt i (by omega)]
    simp [i32s, hr]
theorem RowI.below {w w' : World} {p : Option Addr} {ws : List Int} (h : RowI w p ws) (hb : Below w.heap.size w w') : RowI w' p ws := fun i r hr => by
  obtain ⟨g, hp, hl, h1⟩ := h i r hr
  exact ⟨g, hp, Nat.lt_of_lt_of_le hl hb.size, (hb.cell (p := ⟨g, i, none⟩) hl).trans h1⟩
theorem Try.infoI32 : (Try.prog.info? 21).map (fun i => (i.zero, i.size, i.bytes)) = some (some (.int .i32 0), 1, 4) := by kernel_rfl
def BkSt (w : World) (len : Nat) (s v i : Value) (wr : World) : Prop :=
  ∃ (k : Nat) (ws : List Int) (t : ByteArray), k ≤ len ∧ k ≤ 20 ∧ ws.length = k ∧ Rn.Rights ws ∧ i = .int .i64 (k : Int) ∧ s = .string t ∧ t.data.toList = Rn.cat ws ∧ t.size ≤ 4 * k ∧ wr.ownsRow w.heap.size 21 1 v k (i32s ws) ∧ Below w.heap.size w wr
theorem enc_small (r : Int) : (Utf8.encode r).size ≤ 4 := by
  cases h : Rn.rightB r with
  | true => rw [Rn.enc_size r h]; repeat' split
            all_goals omega
  | false => rw [Rn.enc_bad h]; decide
set_option maxRecDepth 20000 in
set_option maxHeartbeats 8000000 in
theorem law_RunesBack (a : Option Addr) (len cap : Nat) (w : World) (hB0 : UArg w a len) (hl : len ≤ 140737488351232) :
    Calls Try.prog 5 #[.slice a len cap] w fun e w' => e = .returned (.bool true) ∧ Below w.heap.size w w' := by
  have HB := Lib.hid hB0
  clear hB0
  obtain ⟨i0, hi, hz0, hz1, hz2⟩ := info_parts Try.infoI32
  go_enter Try.func5, Try.ntmps5
  go_wp2_with fail
  refine (runes_examples _).mono ?_
  rintro e' w1 ⟨rfl, hw1⟩
  go_wp2_with fail
  go_loopw [4, 5, 6, 7] (fun s v i _ wr => BkSt w len s v i wr) (fun _ _ i _ _ => len - (intOf i).toNat)
  case atStart => exact ⟨0, [], ⟨#[]⟩, by omega, by omega, rfl, fun i r h => by simp at h, rfl, rfl, rfl, by decide, World.ownsRow_nil _ _ _ _, hw1⟩
  case round =>
    obtain ⟨k, ws, t, hk, hk2, hwl, hri, rfl, rfl, ht, hts, hown, b0⟩ := hrel
    clear hw1
    by_cases hlt : k < len ∧ k < 20
    · obtain ⟨h1, h2⟩ := hlt
      rcases HB.out with h0 | ⟨g, off, rfl, hg, hc⟩
      · omega
      obtain ⟨c, c0, c1, hcc⟩ := hc k h1
      have hcc' := (b0.cell (p := ⟨g, off + k, none⟩) hg).trans hcc
      have HRI := Lib.hid hri
      have HT := Lib.hid ht
      have HO := Lib.hid hown
      have HC := Lib.hid hcc
      have HW := Lib.hid hwl
      have bsz := b0.size
      clear hri ht hown hcc hwl hc
      rcases (show c % 3 = 0 ∨ ¬ c % 3 = 0 by omega) with h3 | h3
      · have h3b : (c % 3 == 0) = true := by simpa using h3
        obtain ⟨R, hR⟩ : ∃ R, c % 1114112 % 300 = R := ⟨_, rfl⟩
        have hR0 : 0 ≤ R ∧ R ≤ 1114111 := by omega
        obtain ⟨E, hE⟩ : ∃ E, Utf8.encode R = E := ⟨_, rfl⟩
        have hEs : E.size ≤ 4 := by rw [← hE]; exact enc_small R
        have HE := Lib.hid hE
        clear h3 hE
        cases hb : Rn.rightB R with
        | true =>
          have HR := Lib.hid hb
          clear hb
          go_wp2_with fail
          refine (put_at R E _ HE.out).mono ?_
          rintro e w' ⟨rfl, rfl⟩
          go_wp2_with fail
          refine (right_at R true _ HR.out).mono ?_
          rintro e w' ⟨rfl, rfl⟩
          go_wp2_with (at_builtin; refine wpList_append_own _ rfl _ _ 42 rfl w.heap.size 21 i0 (.int .i32 0) 1 4 Try.underlying42 hi hz0 hz1 hz2 rfl (by decide) _ _ _ rfl (HO.out.alloc _) ⟨wr.heap.size, 0, none⟩ 1 1 [.int .i32 R] rfl rfl ?c11 ?c21 ?c31 ?c41 ?c51 ?_)
          case c11 =>
            intro j u hj
            match j, hj with
            | 0, hj => simp at hj; subst hj; simp [Addr.add]
          case c21 => intro u hu; simp at hu; subst hu; rfl
          case c31 => unfold maxLen; omega
          case c41 => omega
          case c51 => have := b0.size; simp; omega
          · intro v' w3 hown' hgrow _
            have hob := own_block HO.out
            have b3 : Below w.heap.size w w3 := (b0.alloc b0.size _).grown hgrow (by have := b0.size; simp; omega) (by intro g hg; have := hob g hg; omega)
            have e1 : i32s ws ++ [.int .i32 R] = i32s (ws ++ [R]) := by simp [i32s]
            rw [e1] at hown'
            have HO' := Lib.hid hown'
            clear hown' hgrow e1 hob b0
            go_wp2_with fail
            go_roundw
            case rel => exact ⟨k + 1, ws ++ [R], t ++ E, by omega, by omega, by rw [List.length_append, HW.out]; rfl, Rn.rights_snoc HRI.out HR.out, by go_num, rfl, by rw [ByteArray.data_append, Array.toList_append, HT.out, Rn.cat_app, ← HE.out]; simp [Rn.cat], by rw [ByteArray.size_append]; omega, HO'.out, b3⟩
            case measure => simp [intOf]; omega
        | false =>
          have HR := Lib.hid hb
          clear hb
          go_wp2_with fail
          refine (put_at R E _ HE.out).mono ?_
          rintro e w' ⟨rfl, rfl⟩
          go_wp2_with fail
          refine (right_at R false _ HR.out).mono ?_
          rintro e w' ⟨rfl, rfl⟩
          go_wp2_with (at_builtin; refine wpList_append_own _ rfl _ _ 42 rfl w.heap.size 21 i0 (.int .i32 0) 1 4 Try.underlying42 hi hz0 hz1 hz2 rfl (by decide) _ _ _ rfl (HO.out.alloc _) ⟨wr.heap.size, 0, none⟩ 1 1 [.int .i32 65533] rfl rfl ?c12 ?c22 ?c32 ?c42 ?c52 ?_)
          case c12 =>
            intro j u hj
            match j, hj with
            | 0, hj => simp at hj; subst hj; simp [Addr.add]
          case c22 => intro u hu; simp at hu; subst hu; rfl
          case c32 => unfold maxLen; omega
          case c42 => omega
          case c52 => have := b0.size; simp; omega
          · intro v' w3 hown' hgrow _
            have hob := own_block HO.out
            have b3 : Below w.heap.size w w3 := (b0.alloc b0.size _).grown hgrow (by have := b0.size; simp; omega) (by intro g hg; have := hob g hg; omega)
            have e1 : i32s ws ++ [.int .i32 65533] = i32s (ws ++ [65533]) := by simp [i32s]
            rw [e1] at hown'
            have HO' := Lib.hid hown'
            clear hown' hgrow e1 hob b0
            go_wp2_with fail
            go_roundw
            case rel => exact ⟨k + 1, ws ++ [65533], t ++ E, by omega, by omega, by rw [List.length_append, HW.out]; rfl, Rn.rights_snoc HRI.out (by decide), by go_num, rfl, by rw [ByteArray.data_append, Array.toList_append, HT.out, Rn.cat_app, ← HE.out, Rn.enc_want R HR.out]; simp [Rn.cat], by rw [ByteArray.size_append]; omega, HO'.out, b3⟩
            case measure => simp [intOf]; omega
      · have h3b : (c % 3 == 0) = false := by simpa using h3
        obtain ⟨R, hR⟩ : ∃ R, c % 1114112 = R := ⟨_, rfl⟩
        have hR0 : 0 ≤ R ∧ R ≤ 1114111 := by omega
        obtain ⟨E, hE⟩ : ∃ E, Utf8.encode R = E := ⟨_, rfl⟩
        have hEs : E.size ≤ 4 := by rw [← hE]; exact enc_small R
        have HE := Lib.hid hE
        clear h3 hE
        cases hb : Rn.rightB R with
        | true =>
          have HR := Lib.hid hb
          clear hb
          go_wp2_with fail
          refine (put_at R E _ HE.out).mono ?_
          rintro e w' ⟨rfl, rfl⟩
          go_wp2_with fail
          refine (right_at R true _ HR.out).mono ?_
          rintro e w' ⟨rfl, rfl⟩
          go_wp2_with (at_builtin; refine wpList_append_own _ rfl _ _ 42 rfl w.heap.size 21 i0 (.int .i32 0) 1 4 Try.underlying42 hi hz0 hz1 hz2 rfl (by decide) _ _ _ rfl (HO.out.alloc _) ⟨wr.heap.size, 0, none⟩ 1 1 [.int .i32 R] rfl rfl ?c13 ?c23 ?c33 ?c43 ?c53 ?_)
          case c13 =>
            intro j u hj
            match j, hj with
            | 0, hj => simp at hj; subst hj; simp [Addr.add]
          case c23 => intro u hu; simp at hu; subst hu; rfl
          case c33 => unfold maxLen; omega
          case c43 => omega
          case c53 => have := b0.size; simp; omega
          · intro v' w3 hown' hgrow _
            have hob := own_block HO.out
            have b3 : Below w.heap.size w w3 := (b0.alloc b0.size _).grown hgrow (by have := b0.size; simp; omega) (by intro g hg; have := hob g hg; omega)
            have e1 : i32s ws ++ [.int .i32 R] = i32s (ws ++ [R]) := by simp [i32s]
            rw [e1] at hown'
            have HO' := Lib.hid hown'
            clear hown' hgrow e1 hob b0
            go_wp2_with fail
            go_roundw
            case rel => exact ⟨k + 1, ws ++ [R], t ++ E, by omega, by omega, by rw [List.length_append, HW.out]; rfl, Rn.rights_snoc HRI.out HR.out, by go_num, rfl, by rw [ByteArray.data_append, Array.toList_append, HT.out, Rn.cat_app, ← HE.out]; simp [Rn.cat], by rw [ByteArray.size_append]; omega, HO'.out, b3⟩
            case measure => simp [intOf]; omega
        | false =>
          have HR := Lib.hid hb
          clear hb
          go_wp2_with fail
          refine (put_at R E _ HE.out).mono ?_
          rintro e w' ⟨rfl, rfl⟩
          go_wp2_with fail
          refine (right_at R false _ HR.out).mono ?_
          rintro e w' ⟨rfl, rfl⟩
          go_wp2_with (at_builtin; refine wpList_append_own _ rfl _ _ 42 rfl w.heap.size 21 i0 (.int .i32 0) 1 4 Try.underlying42 hi hz0 hz1 hz2 rfl (by decide) _ _ _ rfl (HO.out.alloc _) ⟨wr.heap.size, 0, none⟩ 1 1 [.int .i32 65533] rfl rfl ?c14 ?c24 ?c34 ?c44 ?c54 ?_)
          case c14 =>
            intro j u hj
            match j, hj with
            | 0, hj => simp at hj; subst hj; simp [Addr.add]
          case c24 => intro u hu; simp at hu; subst hu; rfl
          case c34 => unfold maxLen; omega
          case c44 => omega
          case c54 => have := b0.size; simp; omega
          · intro v' w3 hown' hgrow _
            have hob := own_block HO.out
            have b3 : Below w.heap.size w w3 := (b0.alloc b0.size _).grown hgrow (by have := b0.size; simp; omega) (by intro g hg; have := hob g hg; omega)
            have e1 : i32s ws ++ [.int .i32 65533] = i32s (ws ++ [65533]) := by simp [i32s]
            rw [e1] at hown'
            have HO' := Lib.hid hown'
            clear hown' hgrow e1 hob b0
            go_wp2_with fail
            go_roundw
            case rel => exact ⟨k + 1, ws ++ [65533], t ++ E, by omega, by omega, by rw [List.length_append, HW.out]; rfl, Rn.rights_snoc HRI.out (by decide), by go_num, rfl, by rw [ByteArray.data_append, Array.toList_append, HT.out, Rn.cat_app, ← HE.out, Rn.enc_want R HR.out]; simp [Rn.cat], by rw [ByteArray.size_append]; omega, HO'.out, b3⟩
            case measure => simp [intOf]; omega
    · have hbk := Rn.back hri ht
      have hcnt := hbk.2.2
      have HBK := Lib.hid hbk
      have HCN := Lib.hid hcnt
      have HRI := Lib.hid hri
      obtain ⟨p, capv, rfl, hcv, hrow⟩ := row_i (by rw [hwl]; exact hown)
      have hsz : t.size ≤ 80 := by omega
      have HROW := Lib.hid hrow
      have hk3 : ws.length ≤ 20 := by omega
      have hwk : k = ws.length := hwl.symm
      subst hwk
      clear hbk hcnt hri ht hown hrow
      rcases (show len ≤ ws.length ∨ (ws.length < len ∧ 20 ≤ ws.length) by omega) with h1 | ⟨h1, h2⟩
      all_goals
        go_wp2_with fail
        refine (all_u t _ (by omega)).mono ?_
        rintro e' w2 ⟨q, capq, rfl, hcq, hu, hw2⟩
        have b2 := bvia b0 hw2
        have HU := Lib.hid hu
        have HROW2 := Lib.hid (HROW.out.below hw2)
        rw [HCN.out] at hcq ⊢
        clear hu hw2 b0 HROW
        go_wp2_with fail
        go_loopw [9] (fun i wr => ∃ k : Nat, k ≤ ws.length ∧ i = .int .i64 (k : Int) ∧ Below w2.heap.size w2 wr) (fun i _ => ws.length - (intOf i).toNat)
        case atStart => exact ⟨0, Nat.zero_le _, rfl, Below.refl _ _⟩
        case round =>
          obtain ⟨k, hk', rfl, br⟩ := hrel
          by_cases hlt2 : k < ws.length
          · obtain ⟨r, hr⟩ : ∃ r, ws[k]? = some r := ⟨_, List.getElem?_eq_getElem hlt2⟩
            obtain ⟨g, rfl, hg, c1, c2, c3⟩ := (HU.out.below br).get (show k < Rn.cnt t by rw [HCN.out]; exact hlt2)
            obtain ⟨h, rfl, hh, d1⟩ := (HROW2.out.below br) k r hr
            obtain ⟨e1, e2⟩ := HBK.out.2.1 k r hr
            obtain ⟨E, hE⟩ : ∃ E, Utf8.encode r = E := ⟨_, rfl⟩
            rw [e1] at c1
            rw [e2, hE] at c3
            have HE := Lib.hid hE
            have hkl : (k : Int) < (ws.length : Int) := by omega
            have hEs : E.size ≤ 4 := by rw [← hE]; exact enc_small r
            clear hE e1 e2 hr
            go_wp2_with fail
            go_quiet ((go_at_call 22; exact Calls.quiet_of_same ((put_at r E _ HE.out).mono fun _ _ h => ⟨h.1, h.2.symm⟩)))
            go_wp2_with fail
            go_roundw
            case rel => exact ⟨k + 1, by omega, by go_num, bdrewN br⟩
            case measure => simp [intOf]; omega
          · obtain rfl : k = ws.length := by omega
            have b7 := bvia b2 br
            go_wp2_with fail
            go_ret
            exact ⟨rfl, b7⟩
end Go.Proofs.Ytaaheinjalakmaa
