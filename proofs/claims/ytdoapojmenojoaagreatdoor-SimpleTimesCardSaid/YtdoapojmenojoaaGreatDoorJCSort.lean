import Derived.Test.YtdoapojmenojoaaGreatDoorJCPut
import Derived.Test.YtdoapojmenojoaaGreatDoorJCLay
import Derived.Shelf.SlSortCmp.NoneTotal
set_option linter.unusedSimpArgs false
set_option linter.unusedVariables false
/- Ranges that may be, sorted by their lower ends. -/
set_option linter.unusedVariables false
namespace Go.Proofs.YtdoapojmenojoaaGreatDoor
open Go.RowKit
open Go.Sort hiding Below

theorem may_any (a b : Int) (v : Bool) (w : World) (h : mayB (a, b) = v) : Calls Tryz.prog 146 #[.agg #[.int .i32 a, .int .i32 b]] w fun e w' => e = .returned (.bool v) ∧ Below w.heap.size w w' := by
  have HV := Lib.hid h
  clear h
  rcases (show a < 0 ∨ (0 ≤ a ∧ 1114111 < b ∧ a ≤ b) ∨ (0 ≤ a ∧ b < a) ∨ (0 ≤ a ∧ b ≤ 1114111 ∧ a ≤ b) by omega) with h | ⟨h, h', h''⟩ | ⟨h, h'⟩ | ⟨h, h', h''⟩
  all_goals
    go_enter Tryz.func146, Tryz.ntmps146
    go_wp2_with fail
    go_ret
    refine ⟨ret_bool ?_, (by repeat' (first | exact Below.refl _ _ | (refine Below.drew ?_) | (refine bdrewN ?_) | (refine Below.alloc ?_ (by first | omega | (simp <;> omega)) _) | (refine Below.setCell ?_ (by first | omega | (simp <;> omega)) _) | (refine Below.trans ?_ (Below.mono (by assumption) (by first | omega | (simp <;> omega))))))⟩
    rw [← HV.out]
    unfold mayB
    first
      | (rw [decide_eq_false (by omega : ¬ (0 : Int) ≤ a)]; simp; done)
      | (rw [decide_eq_true h, decide_eq_false (by omega : ¬ b ≤ (1114111 : Int))]; simp; done)
      | (rw [decide_eq_true h, decide_eq_true h', decide_eq_false (by omega : ¬ a ≤ b)]; simp; done)
      | (rw [decide_eq_true h, decide_eq_true h', decide_eq_true h'']; simp; done)
      | (rw [decide_eq_true h, decide_eq_false (by omega : ¬ a ≤ b)]; simp; done)
      | (simp; omega)
theorem isnan_any (a : Int) (w : World) : Calls Tryz.prog 183 #[.int .i32 a] w fun e w' => e = .returned (.bool false) ∧ w = w' := by
  go_enter Tryz.func183, Tryz.ntmps183
  go_wp2_with fail
  go_ret
  exact ⟨by simp, rfl⟩
theorem cmp_any (a b : Int) (w : World) : Calls Tryz.prog 162 #[.int .i32 a, .int .i32 b] w fun e w' => e = .returned (.int .i64 (Lib.compareInt a b)) ∧ w = w' := by
  rcases (show a < b ∨ b < a ∨ a = b by omega) with h | h | rfl
  · have e1 : Lib.compareInt a b = -1 := by unfold Lib.compareInt; rw [if_pos h]
    rw [e1]
    go_enter Tryz.func162, Tryz.ntmps162
    go_wp2_with fail
    refine (isnan_any a _).mono ?_
    rintro e w' ⟨rfl, rfl⟩
    go_wp2_with fail
    refine (isnan_any b _).mono ?_
    rintro e w' ⟨rfl, rfl⟩
    go_wp2_with fail
    go_ret
    exact ⟨rfl, rfl⟩
  · have e1 : Lib.compareInt a b = 1 := by unfold Lib.compareInt; rw [if_neg (by omega), if_pos h]
    rw [e1]
    go_enter Tryz.func162, Tryz.ntmps162
    go_wp2_with fail
    refine (isnan_any a _).mono ?_
    rintro e w' ⟨rfl, rfl⟩
    go_wp2_with fail
    refine (isnan_any b _).mono ?_
    rintro e w' ⟨rfl, rfl⟩
    go_wp2_with fail
    go_ret
    exact ⟨rfl, rfl⟩
  · have e1 : Lib.compareInt a a = 0 := by unfold Lib.compareInt; rw [if_neg (by omega), if_neg (by omega)]
    rw [e1]
    go_enter Tryz.func162, Tryz.ntmps162
    go_wp2_with fail
    refine (isnan_any a _).mono ?_
    rintro e w' ⟨rfl, rfl⟩
    go_wp2_with fail
    refine (isnan_any a _).mono ?_
    rintro e w' ⟨rfl, rfl⟩
    go_wp2_with fail
    go_ret
    exact ⟨rfl, rfl⟩
def encRg (x : Cl.Rg) : List Value := [.int .i32 x.1, .int .i32 x.2]
def cfRg (x y : Cl.Rg) : Int := Lib.compareInt x.1 y.1
theorem clos_any (x y : Cl.Rg) (W : World) : Calls Tryz.prog 161 #[.agg #[.int .i32 x.1, .int .i32 x.2], .agg #[.int .i32 y.1, .int .i32 y.2]] W fun e w' => e = .returned (.int .i64 (cfRg x y)) ∧ ∃ q os', w' = grow (W.drewN q) os' := by
  have hcon := fun W' => cmp_any x.1 y.1 W'
  unfold cfRg
  generalize Lib.compareInt x.1 y.1 = r at hcon ⊢
  go_enter Tryz.func161, Tryz.ntmps161
  go_wp2_with fail
  refine (hcon _).mono ?_
  rintro e w' ⟨rfl, rfl⟩
  go_wp2_with fail
  go_ret
  exact ⟨rfl, 0, _, by rw [Go.Sort.alloc_eq_grow, Go.Sort.alloc_eq_grow, Go.Sort.grow_grow]; rfl⟩
theorem ltRg (x y : Cl.Rg) : ltOf cfRg x y = decide (x.1 < y.1) := by
  unfold ltOf cfRg Lib.compareInt
  by_cases h1 : x.1 < y.1
  · simp [h1]
  · by_cases h2 : y.1 < x.1 <;> simp [h1, h2]
theorem swoRg : SWO (ltOf cfRg) where
  irrefl x := by rw [ltRg]; simp
  trans x y z h1 h2 := by rw [ltRg] at *; simp at *; omega
  ntrans x y z h1 h2 := by rw [ltRg] at *; simp at *; omega
theorem holds_own {w : World} {base g cap : Nat} {e : TypeId} {l : List Cl.Rg} (h : OwnP w base e (.slice (some ⟨g, 0, none⟩) l.length cap) l) : HoldsK encRg 2 w g 0 l.toArray := by
  intro j hj
  have hj' : j < l.length * 2 := by simpa using hj
  have hc := World.ownsRow.cellAt h j (by omega)
  have hf := World.ownsRow.frozenAt h j
  have hx : l[j / 2]? = some l[j / 2] := List.getElem?_eq_getElem (by omega)
  obtain ⟨p1, p2⟩ := pcells_at l (j / 2) _ hx
  rw [Go.Sort.get_flatK _ _ _ _ (by simpa using hj'), Nat.zero_add]
  refine ⟨?_, hf⟩
  rw [hc]
  have e1 : l.toArray[j / 2]! = l[j / 2] := by simp [show j / 2 < l.length by omega]
  rw [e1]
  rcases (show j % 2 = 0 ∨ j % 2 = 1 by omega) with h0 | h0
  · have ej : j / 2 * 2 = j := by omega
    rw [ej] at p1
    rw [p1, h0]; rfl
  · have ej : j / 2 * 2 + 1 = j := by omega
    rw [ej] at p2
    rw [p2, h0]; rfl
theorem below_sorted {w : World} {B g n : Nat} {os : Array Obj} {d : Array Cl.Rg} (hB : B ≤ g) (hg : g < w.heap.size) (hs : B ≤ w.heap.size) : Below B w (sortWorldK encRg 2 w g 0 n d os) := by
  refine ⟨rfl, rfl, rfl, by simp [sortWorldK, putRowK, Go.Sort.putRow, Go.Sort.mapBlock, Go.Sort.grow, Go.Sort.ahead], fun k hk => ?_⟩
  unfold sortWorldK
  rw [heap_grow_old _ _ (by simp [putRowK, Go.Sort.putRow, Go.Sort.mapBlock, Go.Sort.ahead]; omega)]
  have : g ≠ k := by omega
  simp [putRowK, Go.Sort.putRow, Go.Sort.mapBlock, Go.Sort.ahead, Array.getElem?_modify, this]
theorem sorted_row {w : World} {g n : Nat} {os : Array Obj} {d d' : Array Cl.Rg} (hH : HoldsK encRg 2 w g 0 d) (hg : g < w.heap.size) (hs : d'.size = d.size) : RowP (sortWorldK encRg 2 w g 0 n d' os) (some ⟨g, 0, none⟩) d'.toList := by
  have h1 := Go.Sort.holdsK_putRowK encRg 2 (Go.Sort.ahead w n) g 0 d d' hH hs
  have h2 := Go.Sort.holdsK_grow encRg 2 _ os g 0 d' (by simp [putRowK, Go.Sort.putRow, Go.Sort.mapBlock, Go.Sort.ahead]; omega) h1
  intro k x hx
  obtain ⟨hk, hv⟩ := List.getElem?_eq_some_iff.1 hx
  have hk' : k < d'.size := by simpa using hk
  have e1 : d'[k]! = x := by rw [getElem!_pos d' k hk']; simpa using hv
  refine ⟨g, 0, rfl, ?_, ?_, ?_⟩
  · simp [sortWorldK, putRowK, Go.Sort.putRow, Go.Sort.mapBlock, Go.Sort.grow, Go.Sort.ahead]; omega
  · have := (Go.Sort.HoldsK.cell h2 hk' (show 0 < 2 by decide)).1
    rw [e1] at this
    exact this
  · have := (Go.Sort.HoldsK.cell h2 hk' (show 1 < 2 by decide)).1
    rw [e1] at this
    exact this
/- what the sort leaves -/
def Sorted (l l' : List Cl.Rg) : Prop := l'.Perm l ∧ l'.Pairwise (fun r s => r.1 ≤ s.1)
def SortPost (p : Option Addr) (l : List Cl.Rg) (w : World) (e : Ending) (w' : World) : Prop := e = .returned (.tuple #[]) ∧ ∃ l', Sorted l l' ∧ RowP w' p l'
theorem sort_own (v : Value) (l : List Cl.Rg) (w : World) (base B : Nat) (ho : OwnP w base 116 v l) (hB : B ≤ base) (hs : B ≤ w.heap.size) (hl : l.length ≤ 1000000) :
    ∃ p cap, v = .slice p l.length cap ∧ Ptr p cap ∧ l.length ≤ cap ∧ Calls Tryz.prog 160 #[.slice p l.length cap, .func (.func 161) #[] #[]] w fun e w' => SortPost p l w e w' ∧ Below B w w' := by
  obtain ⟨p, cap, rfl, hp, hc, hr⟩ := row_q ho
  refine ⟨p, cap, rfl, hp, hc, ?_⟩
  cases hl0 : l with
  | nil =>
    have := Go.Proofs.AnyF.slices_SortFunc_none { Tryz.sortRg with } p cap (.func (.func 161) #[] #[]) w
    change Calls Tryz.prog 160 _ _ _ at this
    refine this.mono ?_
    rintro e w' ⟨rfl, rfl⟩
    exact ⟨⟨rfl, [], ⟨List.Perm.refl _, List.Pairwise.nil⟩, RowP.nil _ _⟩, Below.refl _ _⟩
  | cons r0 l0 =>
    rw [← hl0]
    have hpos : 0 < l.length := by rw [hl0]; simp
    obtain ⟨g, hpg, hgB, hgl⟩ : ∃ g, p = some ⟨g, 0, none⟩ ∧ base ≤ g ∧ g < w.heap.size := by
      rcases ho.2 with ⟨_, h0⟩ | ⟨g, cap', cur, h0, hg, hb, _⟩
      · omega
      · simp only [Value.slice.injEq] at h0
        exact ⟨g, h0.1, hg, (Array.getElem?_eq_some_iff.1 hb).1⟩
    subst hpg
    have hH := holds_own ho
    have eg : ∀ args w, (callFunc 161 args).run Tryz.prog w = .ok (.enter 161 args) w := enters_of Tryz.func161 (by kernel_rfl) rfl
    have hcon := Go.Proofs.AnyQ.slices_SortFunc Tryz.sortRg 2 Tryz.isAgg116 Tryz.sizeOf116 encRg (fun _ => rfl) (fun x v hv => by simp [encRg] at hv; rcases hv with rfl | rfl <;> rfl) cfRg swoRg 161 #[] g 0 cap l.toArray w eg (fun _ _ _ _ x y => clos_any x y _) hH hgl (by simp; omega)
    change Calls Tryz.prog 160 #[.slice (some ⟨g, 0, none⟩) l.toArray.size cap, _] _ _ at hcon
    rw [show l.toArray.size = l.length by simp] at hcon
    refine hcon.mono ?_
    rintro e w' ⟨rfl, d', n, os, hperm, hsort, rfl⟩
    obtain ⟨hsz, _, hpm⟩ := hperm
    have hsz' : d'.size = l.length := by simpa using hsz
    refine ⟨⟨rfl, d'.toList, ⟨?_, ?_⟩, sorted_row hH hgl hsz⟩, below_sorted (by omega) hgl hs⟩
    · have e1 : (d'.extract 0 l.length).toList = d'.toList := by rw [← hsz']; simp
      have e2 : (l.toArray.extract 0 l.length).toList = l := by simp
      rw [e1, e2] at hpm
      exact hpm
    · rw [List.pairwise_iff_getElem]
      intro i j hi hj hij
      have h1 := hsort i j (Nat.zero_le _) hij (by rw [← hsz']; simpa using hj)
      rw [ltRg, getElem!_pos d' i (by simpa using hi), getElem!_pos d' j (by simpa using hj)] at h1
      simp only [decide_eq_false_iff_not, Int.not_lt] at h1
      simpa using h1
/- ranges that may be, by their lower ends -/
def RisingPost (l : List Cl.Rg) (w : World) (e : Ending) (w' : World) : Prop :=
  ∃ p cap l', e = .returned (.slice p l'.length cap) ∧ l'.length ≤ l.length ∧ l'.length ≤ cap ∧ RowP w' p l' ∧ Sorted (Cl.mays l) l' ∧ Below w.heap.size w w'
set_option maxRecDepth 20000 in
set_option maxHeartbeats 4000000 in
theorem rising_any (p : Option Addr) (cap : Nat) (l : List Cl.Rg) (w : World) (hp : RowP w p l) (hl : l.length ≤ 1000000) :
    Calls Tryz.prog 141 #[.slice p l.length cap] w (RisingPost l w) := by
  have HP := Lib.hid hp
  clear hp
  go_enter Tryz.func141, Tryz.ntmps141
  go_wp2_with fail
  go_loopw [3, 8] (fun v i wr => ∃ k : Nat, i = .int .i64 (k : Int) ∧ k ≤ l.length ∧ OwnP wr w.heap.size 116 v (Cl.mays (l.take k)) ∧ Below w.heap.size w wr) (fun _ i _ => l.length - (intOf i).toNat)
  case atStart => exact ⟨0, rfl, Nat.zero_le _, OwnP.nil _ _ _, Below.refl _ _⟩
  case round =>
    obtain ⟨k, rfl, hk, hown, br⟩ := hrel
    have HO := Lib.hid hown
    clear hown
    by_cases hlt : k < l.length
    · obtain ⟨g, off, a, b, rfl, hg, hab, c1, c2⟩ := (HP.out.below br).get hlt
      have hkl : (k : Int) < (l.length : Int) := by omega
      have hst := Lib.hid (Cl.mays_take l k _ hab)
      have hle := Cl.mays_len (l.take k)
      rw [take_len hk] at hle
      clear hab
      have bsz := br.size
      by_cases hm : Cl.may (a, b)
      · have hmb := Lib.hid (mayB_true hm)
        have hst' := Lib.hid (hst.out.trans (by rw [if_pos hm]))
        clear hst hm
        go_wp2_with fail
        have ht := Lib.hid (Two.new wr (.int .i32 a) (.int .i32 b) 116)
        have HO1 := Lib.hid (HO.out.alloc (.cells #[.int .i32 a, .int .i32 b] 116))
        have b1 := br.alloc bsz (.cells #[.int .i32 a, .int .i32 b] 116)
        have zl : wr.heap.size < (wr.alloc (.cells #[.int .i32 a, .int .i32 b] 116)).heap.size := by simp
        generalize wr.alloc (.cells #[.int .i32 a, .int .i32 b] 116) = wa at ht HO1 b1 zl ⊢
        refine (may_any a b true _ hmb.out).mono ?_
        rintro e w1 ⟨rfl, hw1⟩
        have ht1 := ht.out.below hw1 zl
        obtain ⟨t0, t1, _, _⟩ := ht1
        have HO2 := Lib.hid (HO1.out.below hw1)
        have b2 := bvia b1 hw1
        clear hw1 HO HO1 br c1 c2 ht b1
        go_wp2_with (at_builtin; refine append_pair rfl _ _ 25 rfl w.heap.size 116 Tryz.underlying25 Tryz.infoP _ _ (Cl.mays (l.take k)) _ _ rfl (by exact HO2.out) rfl ?d1 ?d2 ?_)
        case d1 => omega
        case d2 => exact b2.size
        · intro v' w' hown' hg'
          have b3 := below_own b2 HO2.out (Nat.le_refl _) b2.size hg'
          have HO3 := Lib.hid hown'
          clear hown' hg' HO2 b2 t0 t1
          go_wp2_with fail
          go_roundw
          case rel => exact ⟨k + 1, by go_num, by omega, by rw [hst'.out]; exact HO3.out, b3⟩
          case measure => simp [intOf]; omega
      · have hmb := Lib.hid (mayB_false hm)
        have hst' := Lib.hid (hst.out.trans (by rw [if_neg hm, List.append_nil]))
        clear hst hm
        go_wp2_with fail
        have HO1 := Lib.hid (HO.out.alloc (.cells #[.int .i32 a, .int .i32 b] 116))
        have b1 := br.alloc bsz (.cells #[.int .i32 a, .int .i32 b] 116)
        generalize wr.alloc (.cells #[.int .i32 a, .int .i32 b] 116) = wa at HO1 b1 ⊢
        refine (may_any a b false _ hmb.out).mono ?_
        rintro e w1 ⟨rfl, hw1⟩
        have HO2 := Lib.hid (HO1.out.below hw1)
        have b2 := bvia b1 hw1
        clear hw1 HO HO1 br c1 c2 b1
        go_wp2_with fail
        go_roundw
        case rel => exact ⟨k + 1, by go_num, by omega, by rw [hst'.out]; exact HO2.out, b2⟩
        case measure => simp [intOf]; omega
    · obtain rfl : k = l.length := by omega
      have HO1 := Lib.hid (show OwnP wr w.heap.size 116 u3 (Cl.mays l) by have := HO.out; rwa [List.take_length] at this)
      have hle := Cl.mays_len l
      clear HO
      obtain ⟨q, c, rfl, hq, hcc, hcon⟩ := sort_own u3 (Cl.mays l) wr w.heap.size w.heap.size HO1.out (Nat.le_refl _) br.size (by omega)
      clear HO1
      go_wp2_with fail
      refine hcon.mono ?_
      rintro e w1 ⟨⟨rfl, l', hso, hrow⟩, hw1⟩
      have hlen := hso.1.length_eq
      have b2 := br.trans hw1
      clear hcon hw1 br
      have HS := Lib.hid hso
      have HR := Lib.hid hrow
      clear hso hrow
      go_wp2_with fail
      go_ret
      exact ⟨q, c, l', by rw [hlen]; rfl, by omega, by omega, HR.out, HS.out, b2⟩
end Go.Proofs.YtdoapojmenojoaaGreatDoor
