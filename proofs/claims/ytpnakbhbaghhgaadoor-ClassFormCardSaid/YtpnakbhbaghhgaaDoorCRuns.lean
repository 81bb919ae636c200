/- The ranges that a statement's arguments tell; a class as the document's. -/
import Derived.Test.YtpnakbhbaghhgaaDoorCPutC
import Derived.Test.YtpnakbhbaghhgaaDoorCPutR
import Derived.Test.YtpnakbhbaghhgaaDoorCCls3
import Derived.Test.YtpnakbhbaghhgaaDoorCUnion
import Derived.Deep.RegionHeld3
set_option linter.unusedVariables false
namespace Go.Proofs.YtpnakbhbaghhgaaDoor
open Go.RowKit

/- a slice of runs that came in -/
def RunArg (w : World) (p : Option Addr) (len : Nat) : Prop := len = 0 ∨ ∃ g off, p = some ⟨g, off, none⟩ ∧ g < w.heap.size ∧ ∀ k, k < len → ∃ (a b : Int) (o : Bool) (c d : Int),
  -2147483648 ≤ a ∧ a ≤ 2147483647 ∧ -2147483648 ≤ b ∧ b ≤ 2147483647 ∧ 0 ≤ c ∧ c ≤ 255 ∧ 0 ≤ d ∧ d ≤ 255 ∧
  w.cell? ⟨g, off + k * 5, none⟩ = some (.int .i32 a) ∧ w.cell? ⟨g, off + k * 5 + 1, none⟩ = some (.int .i32 b) ∧ w.cell? ⟨g, off + k * 5 + 2, none⟩ = some (.bool o) ∧ w.cell? ⟨g, off + k * 5 + 3, none⟩ = some (.int .u8 c) ∧ w.cell? ⟨g, off + k * 5 + 4, none⟩ = some (.int .u8 d)
theorem RunArg.below {w w' : World} {p : Option Addr} {len : Nat} (h : RunArg w p len) (hb : Below w.heap.size w w') : RunArg w' p len := by
  rcases h with h | ⟨g, off, ha, hg, h⟩
  · exact .inl h
  · refine .inr ⟨g, off, ha, Nat.lt_of_lt_of_le hg hb.size, fun k hk => ?_⟩
    obtain ⟨a, b, o, c, d, r1, r2, r3, r4, r5, r6, r7, r8, h0, h1, h2, h3, h4⟩ := h k hk
    exact ⟨a, b, o, c, d, r1, r2, r3, r4, r5, r6, r7, r8, (hb.cell (p := ⟨g, _, none⟩) hg).trans h0, (hb.cell (p := ⟨g, _, none⟩) hg).trans h1, (hb.cell (p := ⟨g, _, none⟩) hg).trans h2, (hb.cell (p := ⟨g, _, none⟩) hg).trans h3, (hb.cell (p := ⟨g, _, none⟩) hg).trans h4⟩
def RgB (a b : Int) : Prop := -2147483648 ≤ a ∧ a ≤ 2147483647 ∧ -2147483648 ≤ b ∧ b ≤ 2147483647
set_option maxRecDepth 20000 in
set_option maxHeartbeats 4000000 in
theorem run_any (a b : Int) (o : Bool) (c d : Int) (w : World) (hab : RgB a b) (c0 : 0 ≤ c) (c1 : c ≤ 255) (d0 : 0 ≤ d) (d1 : d ≤ 255) :
    Calls Tryd.prog 27 #[.agg #[.int .i32 a, .int .i32 b, .bool o, .int .u8 c, .int .u8 d]] w fun e w' => ∃ x y, e = .returned (.agg #[.int .i32 x, .int .i32 y]) ∧ RgB x y ∧ Below w.heap.size w w' := by
  have HAB := Lib.hid hab
  clear hab
  cases o
  · go_enter Tryd.func27, Tryd.ntmps27
    go_wp2_with fail
    exact bodyPost_ret (v := .agg #[.int .i32 a, .int .i32 b]) (by simp [results, Tryd.results27, go_sem]) rfl ⟨a, b, rfl, HAB.out, (by repeat' (first | exact Below.refl _ _ | (refine Below.drew ?_) | (refine bdrewN ?_) | (refine Below.alloc ?_ (by first | omega | (simp <;> omega)) _) | (refine Below.setCell ?_ (by first | omega | (simp <;> omega)) _) | (refine Below.trans ?_ (Below.mono (by assumption) (by first | omega | (simp <;> omega))))))⟩
  · by_cases h240 : 240 ≤ c
    · go_enter Tryd.func27, Tryd.ntmps27
      go_wp2_with fail
      exact bodyPost_ret (v := .agg #[.int .i32 (1114111 - (c - 240)), .int .i32 (1114111 - (c - 240) + d % 5)]) (by simp [results, Tryd.results27, go_sem]) rfl ⟨_, _, rfl, by unfold RgB; omega, (by repeat' (first | exact Below.refl _ _ | (refine Below.drew ?_) | (refine bdrewN ?_) | (refine Below.alloc ?_ (by first | omega | (simp <;> omega)) _) | (refine Below.setCell ?_ (by first | omega | (simp <;> omega)) _) | (refine Below.trans ?_ (Below.mono (by assumption) (by first | omega | (simp <;> omega))))))⟩
    · go_enter Tryd.func27, Tryd.ntmps27
      go_wp2_with fail
      exact bodyPost_ret (v := .agg #[.int .i32 (97 + c % 26), .int .i32 (97 + c % 26 + d % 5)]) (by simp [results, Tryd.results27, go_sem]) rfl ⟨_, _, rfl, by unfold RgB; omega, (by repeat' (first | exact Below.refl _ _ | (refine Below.drew ?_) | (refine bdrewN ?_) | (refine Below.alloc ?_ (by first | omega | (simp <;> omega)) _) | (refine Below.setCell ?_ (by first | omega | (simp <;> omega)) _) | (refine Below.trans ?_ (Below.mono (by assumption) (by first | omega | (simp <;> omega))))))⟩
theorem rin_app {l : List Cl.Rg} {a b : Int} (h : RIn l) (hab : RgB a b) : RIn (l ++ [(a, b)]) := fun k r hr => by
  by_cases hk : k < l.length
  · rw [List.getElem?_append_left hk] at hr; exact h k r hr
  · have hk2 : k < (l ++ [(a, b)]).length := (List.getElem?_eq_some_iff.1 hr).1
    simp at hk2
    obtain rfl : k = l.length := by omega
    simp at hr
    subst hr
    exact hab
theorem step_pair {P : Program} {ops : Array Oper} {o : Oper} {a : Act} {K : Act → World → Prop} {Q : Exit → Act → World → Prop} {E : Prop} (hgd : o.guard = none) (s x : Operand) (t : TypeId)
    (ho : o.op = .call { callee := .builtin .append, args := #[s, x], argTypes := #[t, t] })
    (base : Nat) (e : TypeId) (ht : P.underlying t = some (.slice e)) (hi : (P.info? e).map (fun i => (i.zero, i.size, i.bytes)) = some (some (.agg #[.int .i32 0, .int .i32 0]), 2, 8))
    (w : World) (v : Value) (l : List Cl.Rg) (c d : Int) (hs : a.eval s = v) (hown : OwnP w base e v l)
    (hx : a.eval x = .slice (some ⟨w.heap.size, 0, none⟩) 1 1) (hl : l.length ≤ 4398046511104) (hbase : base ≤ w.heap.size)
    (h : ∀ v' w', OwnP w' base e v' (l ++ [(c, d)]) → w.grownBy w' v.ownBlock → K (a.put o.dst v') w') :
    if Region.wanted o (yielded ops a.tmps) = true then Oper.wp P o a (w.alloc (.cells #[.int .i32 c, .int .i32 d] e)) K Q else E := by
  have hw : Region.wanted o (yielded ops a.tmps) = true := by simp [Region.wanted, hgd]
  rw [if_pos hw]
  obtain ⟨i0, hi, hz0, hz1, hz2⟩ := info_parts hi
  refine wp_append_own _ s x t ho base e i0 _ 2 8 ht hi hz0 hz1 hz2 rfl (by decide) v l.length (pcells l) hs (World.ownsRow.alloc hown _) ⟨w.heap.size, 0, none⟩ 1 1 [.int .i32 c, .int .i32 d] hx rfl (new_two w _ _ _) (by intro u hu; simp at hu; rcases hu with rfl | rfl <;> rfl) (by unfold maxLen; omega) (by omega) (by simp; omega) ?_
  intro v' w' hown' hg _
  exact h v' w' (by unfold OwnP; rw [List.length_append, pcells_app]; exact hown') (grown_alloc hg)
theorem cell_alloc_old {w : World} {g : Nat} (hg : g < w.heap.size) (ob : Obj) (o : Nat) : (w.alloc ob).cell? ⟨g, o, none⟩ = w.cell? ⟨g, o, none⟩ := (Below.alloc (Below.refl w.heap.size w) (Nat.le_refl _) ob).cell hg
theorem cell_grown {w w' : World} {base : Nat} {e : TypeId} {v : Value} {l : List Cl.Rg} (hown : OwnP w base e v l) (hg : w.grownBy w' v.ownBlock) {g : Nat} (h1 : g < base) (h2 : g < w.heap.size) (o : Nat) : w'.cell? ⟨g, o, none⟩ = w.cell? ⟨g, o, none⟩ :=
  cell_of_block (a := ⟨g, o, none⟩) (hg.block g h2 (fun e => by have := own_block hown g e.symm; omega))
def RunsPost (most : Nat) (w : World) (e : Ending) (w' : World) : Prop := ∃ L : List Cl.Rg, L.length ≤ most ∧ RIn L ∧ Mk 48 L w e w'
set_option maxRecDepth 20000 in
set_option maxHeartbeats 4000000 in
theorem runs_any (p : Option Addr) (len cap most : Nat) (w : World) (hp : RunArg w p len) (hlen : len ≤ 9223372036854775807) (hm : most ≤ 1000) :
    Calls Tryd.prog 9 #[.slice p len cap, .int .i64 (most : Int)] w (RunsPost most w) := by
  have HP := Lib.hid hp
  clear hp
  go_enter Tryd.func9, Tryd.ntmps9
  go_wp2_with fail
  go_loopw [5, 6] (fun v i wr => ∃ (k : Nat) (L : List Cl.Rg), i = .int .i64 (k : Int) ∧ k ≤ len ∧ k ≤ most ∧ L.length = k ∧ Hid (RIn L) ∧ OwnP wr w.heap.size 48 v L ∧ Below w.heap.size w wr) (fun _ i _ => len - (intOf i).toNat)
  case atStart => exact ⟨0, [], rfl, Nat.zero_le _, Nat.zero_le _, rfl, Lib.hid (fun k r h => by simp at h), OwnP.nil _ _ _, Below.refl _ _⟩
  case round =>
    obtain ⟨k, L, rfl, hk, hk2, hL, hR, hown, br⟩ := hrel
    have HO := Lib.hid hown
    clear hown
    by_cases hlt : k < len
    · by_cases hlt2 : k < most
      · rcases HP.out.below br with h0 | ⟨g, off, rfl, hg, hc⟩
        · omega
        obtain ⟨a, b, o, c, d, r1, r2, r3, r4, r5, r6, r7, r8, h0, h1, h2, h3, h4⟩ := hc k hlt
        have hkl : (k : Int) < (len : Int) := by omega
        have hkm : (k : Int) < (most : Int) := by omega
        have hk0 : (0 : Int) ≤ (k : Int) := by omega
        clear hc
        go_wp2_with fail
        refine (run_any a b o c d _ ⟨r1, r2, r3, r4⟩ r5 r6 r7 r8).mono ?_
        rintro e w1 ⟨x, y, rfl, hxy, hw1⟩
        have HO1 := Lib.hid (HO.out.below hw1)
        have b1 := bvia br hw1
        have HXY := Lib.hid (rin_app hR.out hxy)
        clear hw1 HO h0 h1 h2 h3 h4 hxy br
        go_wp2_with (at_builtin; refine append_pair rfl _ _ 24 rfl w.heap.size 48 Tryd.underlying24 Tryd.infoP _ _ L _ _ rfl (by exact HO1.out) rfl ?d1 ?d2 ?_)
        case d1 => omega
        case d2 => exact b1.size
        · intro v' w' hown' hg'
          have b3 := below_own b1 HO1.out (Nat.le_refl _) b1.size hg'
          have HO3 := Lib.hid hown'
          clear hown' hg' HO1 b1
          go_wp2_with fail
          go_roundw
          case rel => exact ⟨k + 1, _, by go_num, by omega, by omega, by simp; omega, HXY, HO3.out, b3⟩
          case measure => simp [intOf]; omega
      · have hkl : (k : Int) < (len : Int) := by omega
        have hkm : (most : Int) ≤ (k : Int) := by omega
        go_wp2_with fail
        go_ret
        exact ⟨L, by omega, hR.out, _, rfl, HO.out, br⟩
    · have hkl : (len : Int) ≤ (k : Int) := by omega
      go_wp2_with fail
      go_ret
      exact ⟨L, by omega, hR.out, _, rfl, HO.out, br⟩
set_option maxRecDepth 20000 in
set_option maxHeartbeats 4000000 in
theorem refc_any (p : Option Addr) (cap : Nat) (l : List Cl.Rg) (w : World) (hp : RowP w p l) (hl : l.length ≤ 1000000) :
    Calls Tryd.prog 10 #[.slice p l.length cap] w (Mk 56 l w) := by
  have HP := Lib.hid hp
  clear hp
  go_enter Tryd.func10, Tryd.ntmps10
  go_wp2_with fail
  go_loopw [3, 4] (fun v i wr => ∃ k : Nat, i = .int .i64 (k : Int) ∧ k ≤ l.length ∧ OwnP wr w.heap.size 56 v (l.take k) ∧ Below w.heap.size w wr) (fun _ i _ => l.length - (intOf i).toNat)
  case atStart => exact ⟨0, rfl, Nat.zero_le _, OwnP.nil _ _ _, Below.refl _ _⟩
  case round =>
    obtain ⟨k, rfl, hk, hown, br⟩ := hrel
    by_cases hlt : k < l.length
    · obtain ⟨g, off, a, b, rfl, hg, hab, c1, c2⟩ := HP.out.get hlt
      have c1 := (br.cell (p := ⟨g, off + k * 2, none⟩) hg).trans c1
      have c2 := (br.cell (p := ⟨g, off + k * 2 + 1, none⟩) hg).trans c2
      have hkl : (k : Int) < (l.length : Int) := by omega
      have hk0 : (0 : Int) ≤ (k : Int) := by omega
      have hst := Lib.hid (take_app hab)
      have HO := Lib.hid hown
      clear hown hab
      go_wp2_with fail
      have hg2 : g < wr.heap.size := Nat.lt_of_lt_of_le hg br.size
      go_region_held3 (fun w' => w'.cell? ⟨g, off + k * 2, none⟩ = some (.int .i32 a) ∧ w'.cell? ⟨g, off + k * 2 + 1, none⟩ = some (.int .i32 b)) (first | exact ⟨c1, c2⟩ | exact ⟨(cell_alloc_old (w := wr.drew) hg2 _ _).trans c1, (cell_alloc_old (w := wr.drew) hg2 _ _).trans c2⟩ | exact ⟨(cell_grown HO.out.drew hg' hg hg2 _).trans c1, (cell_grown HO.out.drew hg' hg hg2 _).trans c2⟩) ((refine step_pair (by rfl) _ _ 26 (by rfl) w.heap.size 56 Tryd.underlying26 Tryd.infoQ wr.drew _ (l.take k) a b (by rfl) (by exact HO.out.drew) (by rfl) (by rw [take_len hk]; omega) (by exact br.size) ?_; intro v' w' hown' hg'))
      have b3 := below_own br.drew HO.out.drew (Nat.le_refl _) br.size hg'
      rw [← hst.out] at hown'
      have HO3 := Lib.hid hown'
      clear hown' hg' HO c1 c2 br
      go_wp2_with fail
      go_roundw
      case rel => exact ⟨k + 1, by go_num, by omega, HO3.out, b3⟩
      case measure => simp [intOf]; omega
    · obtain rfl : k = l.length := by omega
      rw [List.take_length] at hown
      have HO := Lib.hid hown
      clear hown
      go_wp2_with fail
      go_ret
      exact ⟨_, rfl, HO.out, br⟩
end Go.Proofs.YtpnakbhbaghhgaaDoor
