/- A class as a text: the project's own. -/
import Derived.Test.YtpnakbhbaghhgaaDoorCBld
import Derived.Test.YtpnakbhbaghhgaaDoorCCls
set_option linter.unusedVariables false
namespace Go.Proofs.YtpnakbhbaghhgaaDoor
open Go.RowKit

theorem bld_below {B b : Nat} {bs : List Value} {w w' : World} (h : BldF B b bs w) (hb : Below w.heap.size w w') : BldF B b bs w' := by
  have key : ∀ p, Lib.BuilderAtF 65 5 B b p bs w → Lib.BuilderAtF 65 5 B b p bs w' := by
    rintro p ⟨h1, v, h2, h3, h4⟩
    refine ⟨h1, v, (hb.block b (Array.getElem?_eq_some_iff.1 h2).1).trans h2, ⟨h3.1, ?_⟩, h4⟩
    rcases h3.2 with h5 | ⟨g, cap, cur, fz, h5, h6, h7, h8⟩
    · exact .inl h5
    · exact .inr ⟨g, cap, cur, fz, h5, h6, (hb.block g (Array.getElem?_eq_some_iff.1 h7).1).trans h7, h8⟩
  exact h.elim (fun x => .inl (key _ x)) (fun x => .inr (key _ x))
theorem new_block (w : World) (o : Obj) : (w.alloc o).heap[w.heap.size]? = some o := by
  show (w.heap.push o)[w.heap.size]? = _
  simp
/- the builder holds bs; a round's own range stands in block bx -/
structure PS (w0 : World) (bs : List UInt8) (bx : Nat) (a b : Int) (w : World) : Prop where
  bld : BldF w0.heap.size w0.heap.size (Lib.byteCells bs) w
  box : w.heap[bx]? = some (.cells #[.int .i32 a, .int .i32 b] 48 (0, 0))
  ne : bx ≠ w0.heap.size
  bel : Below w0.heap.size w0 w
  tab : Tab w
theorem PS.c0 {w0 : World} {bs : List UInt8} {bx : Nat} {a b : Int} {w : World} (h : PS w0 bs bx a b w) : w.cell? ⟨bx, 0, none⟩ = some (.int .i32 a) := by rw [Lib.cell_of_heap h.box]; rfl
theorem PS.c1 {w0 : World} {bs : List UInt8} {bx : Nat} {a b : Int} {w : World} (h : PS w0 bs bx a b w) : w.cell? ⟨bx, 1, none⟩ = some (.int .i32 b) := by rw [Lib.cell_of_heap h.box]; rfl
theorem PS.call {w0 : World} {bs : List UInt8} {bx : Nat} {a b : Int} {w w' : World} (h : PS w0 bs bx a b w) (hb : Below w.heap.size w w') : PS w0 bs bx a b w' :=
  ⟨bld_below h.bld hb, (hb.block bx (Array.getElem?_eq_some_iff.1 h.box).1).trans h.box, h.ne, bvia h.bel hb, h.tab.below hb⟩
theorem PS.wrote {w0 : World} {bs bs' : List UInt8} {bx : Nat} {a b : Int} {w w' : World} (h : PS w0 bs bx a b w) (hl : BldF w0.heap.size w0.heap.size (Lib.byteCells bs') w') (hb : Below w0.heap.size w w') (hk : OthK w0.heap.size w w') (hT : 2 < w0.heap.size) : PS w0 bs' bx a b w' :=
  ⟨hl, hk bx _ h.box (fun e => h.ne (Option.some.inj e)) (fun c fz e => by cases e), h.ne, h.bel.trans hb, ⟨(hb.cell (p := ⟨_, 15, none⟩) hT).trans h.tab.1, Nat.lt_of_lt_of_le h.tab.2 hb.size⟩⟩
theorem PS.byte {w0 : World} {bs : List UInt8} {bx : Nat} {a b : Int} {w : World} (h : PS w0 bs bx a b w) (c : UInt8) (x : Int) (hx : x = (c.toNat : Int)) (hl : bs.length ≤ 100000000) (hT : 2 < w0.heap.size) :
    Calls Tryd.prog 34 #[.pointer (some ⟨w0.heap.size, 0, none⟩), .int .u8 x] w fun e w' => e = .returned .nilIface ∧ PS w0 (bs ++ [c]) bx a b w' := by
  subst hx
  refine (wbyte_any _ _ _ _ _ h.bld (by rw [Lib.byteCells_length]; omega) h.bel.size).mono ?_
  rintro e w' ⟨rfl, h1, h2, h3⟩
  exact ⟨rfl, h.wrote (by rw [Lib.byteCells_append]; exact h1) h2 h3 hT⟩
theorem PS.str {w0 : World} {bs : List UInt8} {bx : Nat} {a b : Int} {w : World} (h : PS w0 bs bx a b w) (s : List UInt8) (hs : s.length ≤ 100) (hl : bs.length ≤ 100000000) (hT : 2 < w0.heap.size) :
    Calls Tryd.prog 35 #[.pointer (some ⟨w0.heap.size, 0, none⟩), .string ⟨s.toArray⟩] w fun e w' => (∃ n, e = .returned (.tuple #[.int .i64 n, .nilIface])) ∧ PS w0 (bs ++ s) bx a b w' := by
  have hsz : (⟨s.toArray⟩ : ByteArray).size = s.length := by show s.toArray.size = _; simp
  refine (wstr_any _ _ _ _ _ h.bld (by rw [Lib.byteCells_length, hsz]; omega) h.bel.size).mono ?_
  rintro e w' ⟨rfl, h1, h2, h3⟩
  exact ⟨⟨_, rfl⟩, h.wrote (by rw [Lib.byteCells_append]; exact h1) h2 h3 hT⟩
set_option maxRecDepth 20000 in
set_option maxHeartbeats 8000000 in
theorem put_any (p : Option Addr) (cap : Nat) (l : List Cl.Rg) (w : World) (hp : RowP w p l) (hi : RIn l) (hT : Tab w) (hl : l.length ≤ 1000000) :
    Calls Tryd.prog 25 #[.slice p l.length cap] w fun e w' => e = .returned (.string ⟨(Cl.putL l).toArray⟩) ∧ Below w.heap.size w w' := by
  have HP := Lib.hid hp
  have HI := Lib.hid hi
  have hTl := hT.2
  have bA : Below w.heap.size w (w.alloc (.cells #[.pointer none, .slice none 0 0] 65)) := Below.alloc (Below.refl _ _) (Nat.le_refl _) _
  have hB0 : BldF w.heap.size w.heap.size (Lib.byteCells []) (w.alloc (.cells #[.pointer none, .slice none 0 0] 65)) := Lib.IsBuilderF.of (Lib.fresh_isBuilder 65 5 w)
  have hTa := hT.below bA
  have hza : w.heap.size < (w.alloc (.cells #[.pointer none, .slice none 0 0] 65)).heap.size := by simp
  clear hp hi hT
  go_enter Tryd.func25, Tryd.ntmps25
  go_wp2_with fail
  generalize w.alloc (.cells #[.pointer none, .slice none 0 0] 65) = wa at *
  go_loopw [4, 5, 8] (fun _ _ i wr => ∃ k : Nat, i = .int .i64 (k : Int) ∧ k ≤ l.length ∧ Hid (BldF w.heap.size w.heap.size (Lib.byteCells (Cl.putL (l.take k))) wr) ∧ Hid (Tab wr) ∧ w.heap.size < wr.heap.size ∧ Below w.heap.size w wr) (fun _ _ i _ => l.length - (intOf i).toNat)
  case atStart => exact ⟨0, rfl, Nat.zero_le _, Lib.hid hB0, Lib.hid hTa, hza, bA⟩
  case round =>
    obtain ⟨k, rfl, hk, hbd, htb, hlt0, br⟩ := hrel
    clear bA hB0 hTa hza
    by_cases hlt : k < l.length
    · obtain ⟨g, off, a, b, rfl, hg, hab, c1, c2⟩ := (HP.out.below br).get hlt
      have hkl : (k : Int) < (l.length : Int) := by omega
      have hrin := HI.out k _ hab
      simp only at hrin
      have hput := Lib.hid (Cl.putL_take l k _ hab)
      have hacc := Cl.putL_len (l.take k) (fun r hr => by
        obtain ⟨j, hj, rfl⟩ := List.getElem_of_mem (List.mem_of_mem_take hr)
        exact HI.out j _ (List.getElem?_eq_getElem hj))
      rw [take_len hk] at hacc
      have ha9 := Cl.hexI_len a hrin.1 hrin.2.1
      have hb9 := Cl.hexI_len b hrin.2.2.1 hrin.2.2.2
      have hps : PS w (Cl.putL (l.take k)) wr.heap.size a b (wr.alloc (.cells #[.int .i32 a, .int .i32 b] 48)) :=
        ⟨hbd.out.alloc _, new_block _ _, by omega, br.alloc br.size _, htb.out.below (Below.alloc (Below.refl _ _) (Nat.le_refl _) _)⟩
      have HPS := Lib.hid hps
      generalize Cl.putL (l.take k) = acc at *
      clear hps hbd htb br hab
      rcases Nat.eq_zero_or_pos k with hk0 | hk0
      · subst hk0
        simp only [if_true, List.append_nil] at hput
        simp only [Nat.zero_mul, Nat.add_zero] at c1 c2
        go_wp2_with fail
        generalize wr.alloc (.cells #[.int .i32 a, .int .i32 b] 48) = w1 at HPS ⊢
        clear c1 c2
        have t0 := HPS.out.c0
        go_wp2_with fail
        refine (cdigits_any a _ HPS.out.tab hrin.1 hrin.2.1).mono ?_
        rintro e w3 ⟨rfl, hw3⟩
        have HPS3 := Lib.hid (HPS.out.call hw3)
        clear HPS t0 hw3
        go_wp2_with fail
        refine (HPS3.out.str (Cl.hexI a) (by omega) (by omega) hTl).mono ?_
        rintro e w4 ⟨⟨n4, rfl⟩, hps4⟩
        have HPS4 := Lib.hid hps4
        have t0 := HPS4.out.c0
        have t1 := HPS4.out.c1
        clear HPS3 hps4
        by_cases hab : b = a
        · subst hab
          go_wp2_with fail
          go_roundw
          case rel => exact ⟨0 + 1, by go_num, by omega, Lib.hid (by rw [hput.out]; simpa [Cl.putR] using HPS4.out.bld), Lib.hid HPS4.out.tab, by have := (Array.getElem?_eq_some_iff.1 HPS4.out.box).1; omega, HPS4.out.bel⟩
          case measure => simp [intOf]; omega
        · have hab' : ¬ a = b := fun e => hab e.symm
          go_wp2_with fail
          refine (HPS4.out.byte 45 _ rfl (by simp; omega) hTl).mono ?_
          rintro e w5 ⟨rfl, hps5⟩
          have HPS5 := Lib.hid hps5
          have t1 := HPS5.out.c1
          clear HPS4 hps5 t0
          go_wp2_with fail
          refine (cdigits_any b _ HPS5.out.tab hrin.2.2.1 hrin.2.2.2).mono ?_
          rintro e w6 ⟨rfl, hw6⟩
          have HPS6 := Lib.hid (HPS5.out.call hw6)
          clear HPS5 t1 hw6
          go_wp2_with fail
          refine (HPS6.out.str (Cl.hexI b) (by omega) (by simp; omega) hTl).mono ?_
          rintro e w7 ⟨⟨n7, rfl⟩, hps7⟩
          have HPS7 := Lib.hid hps7
          clear HPS6 hps7
          go_wp2_with fail
          go_roundw
          case rel => exact ⟨0 + 1, by go_num, by omega, Lib.hid (by rw [hput.out]; simpa [Cl.putR, hab] using HPS7.out.bld), Lib.hid HPS7.out.tab, by have := (Array.getElem?_eq_some_iff.1 HPS7.out.box).1; omega, HPS7.out.bel⟩
          case measure => simp [intOf]; omega
      · have hk0' : (0 : Int) < (k : Int) := by omega
        have hkn : ¬ k = 0 := by omega
        simp only [hkn, if_false] at hput
        go_wp2_with fail
        generalize wr.alloc (.cells #[.int .i32 a, .int .i32 b] 48) = w1 at HPS ⊢
        clear c1 c2
        refine (HPS.out.byte 44 _ rfl (by omega) hTl).mono ?_
        rintro e w2 ⟨rfl, hps⟩
        have HPS := Lib.hid hps
        clear hps
        have hacc2 : (acc ++ [44]).length ≤ 20 * l.length + 1 := by simp; omega
        generalize acc ++ [44] = acc2 at *
        have t0 := HPS.out.c0
        go_wp2_with fail
        refine (cdigits_any a _ HPS.out.tab hrin.1 hrin.2.1).mono ?_
        rintro e w3 ⟨rfl, hw3⟩
        have HPS3 := Lib.hid (HPS.out.call hw3)
        clear HPS t0 hw3
        go_wp2_with fail
        refine (HPS3.out.str (Cl.hexI a) (by omega) (by omega) hTl).mono ?_
        rintro e w4 ⟨⟨n4, rfl⟩, hps4⟩
        have HPS4 := Lib.hid hps4
        have t0 := HPS4.out.c0
        have t1 := HPS4.out.c1
        clear HPS3 hps4
        by_cases hab : b = a
        · subst hab
          go_wp2_with fail
          go_roundw
          case rel => exact ⟨k + 1, by go_num, by omega, Lib.hid (by rw [hput.out]; simpa [Cl.putR] using HPS4.out.bld), Lib.hid HPS4.out.tab, by have := (Array.getElem?_eq_some_iff.1 HPS4.out.box).1; omega, HPS4.out.bel⟩
          case measure => simp [intOf]; omega
        · have hab' : ¬ a = b := fun e => hab e.symm
          go_wp2_with fail
          refine (HPS4.out.byte 45 _ rfl (by simp; omega) hTl).mono ?_
          rintro e w5 ⟨rfl, hps5⟩
          have HPS5 := Lib.hid hps5
          have t1 := HPS5.out.c1
          clear HPS4 hps5 t0
          go_wp2_with fail
          refine (cdigits_any b _ HPS5.out.tab hrin.2.2.1 hrin.2.2.2).mono ?_
          rintro e w6 ⟨rfl, hw6⟩
          have HPS6 := Lib.hid (HPS5.out.call hw6)
          clear HPS5 t1 hw6
          go_wp2_with fail
          refine (HPS6.out.str (Cl.hexI b) (by omega) (by simp; omega) hTl).mono ?_
          rintro e w7 ⟨⟨n7, rfl⟩, hps7⟩
          have HPS7 := Lib.hid hps7
          clear HPS6 hps7
          go_wp2_with fail
          go_roundw
          case rel => exact ⟨k + 1, by go_num, by omega, Lib.hid (by rw [hput.out]; simpa [Cl.putR, hab] using HPS7.out.bld), Lib.hid HPS7.out.tab, by have := (Array.getElem?_eq_some_iff.1 HPS7.out.box).1; omega, HPS7.out.bel⟩
          case measure => simp [intOf]; omega
    · obtain rfl : k = l.length := by omega
      have hbd' := hbd.out
      rw [List.take_length] at hbd'
      have HB := Lib.hid hbd'
      clear hbd hbd'
      go_wp2_with fail
      refine (Tryd.Builder_String_any_k w.heap.size w.heap.size (Cl.putL l) _ HB.out br.size).mono ?_
      rintro e w1 ⟨rfl, _, hw1, _⟩
      have b1 := br.trans hw1
      clear HB br hw1
      go_wp2_with fail
      go_ret
      exact ⟨rfl, b1⟩
end Go.Proofs.YtpnakbhbaghhgaaDoor
