/- A class as a text: the document's own. -/
import Derived.Test.YtpnakbhbaghhgaaDoorCHex
import Derived.Test.YtpnakbhbaghhgaaDoorCApp
import Derived.Test.YtpnakbhbaghhgaaDoorCPut
set_option linter.unusedVariables false
namespace Go.Proofs.YtpnakbhbaghhgaaDoor
open Go.RowKit

def Txts (t : ByteArray) (l : List UInt8) : Prop := t.data.toList = l
theorem txts_size {t : ByteArray} {l : List UInt8} (h : Txts t l) : t.size = l.length := by
  have : t.size = t.data.toList.length := by rw [Array.length_toList]; rfl
  rw [this, h]
theorem txts_app {t u : ByteArray} {l m : List UInt8} (h : Txts t l) (h' : Txts u m) : Txts (t ++ u) (l ++ m) := by
  unfold Txts at *
  rw [ByteArray.data_append, Array.toList_append, h, h']
theorem txts_mk (l : List UInt8) : Txts ⟨l.toArray⟩ l := by simp [Txts]
theorem txts_eq {t : ByteArray} {l : List UInt8} (h : Txts t l) : t = ⟨l.toArray⟩ := by
  apply ByteArray.ext; apply Array.ext'; unfold Txts at h; rw [h]
set_option maxRecDepth 20000 in
set_option maxHeartbeats 8000000 in
theorem rputs_any (p : Option Addr) (cap : Nat) (l : List Cl.Rg) (w : World) (hp : RowP w p l) (hi : RIn l) (hl : l.length ≤ 1000000) :
    Calls Tryd.prog 26 #[.slice p l.length cap] w fun e w' => e = .returned (.string ⟨(Cl.putL l).toArray⟩) ∧ Below w.heap.size w w' := by
  have HP := Lib.hid hp
  have HI := Lib.hid hi
  clear hp hi
  go_enter Tryd.func26, Tryd.ntmps26
  go_wp2_with fail
  go_loopw [3, 4] (fun s i wr => ∃ (k : Nat) (t : ByteArray), i = .int .i64 (k : Int) ∧ s = .string t ∧ k ≤ l.length ∧ Hid (Txts t (Cl.putL (l.take k))) ∧ t.size ≤ 20 * k ∧ Below w.heap.size w wr) (fun _ i _ => l.length - (intOf i).toNat)
  case atStart => exact ⟨0, _, rfl, rfl, Nat.zero_le _, Lib.hid rfl, by decide, Below.refl _ _⟩
  case round =>
    obtain ⟨k, t, rfl, rfl, hk, ht, hts, br⟩ := hrel
    by_cases hlt : k < l.length
    · obtain ⟨g, off, a, b, rfl, hg, hab, c1, c2⟩ := (HP.out.below br).get hlt
      have hkl : (k : Int) < (l.length : Int) := by omega
      have hk0 : (0 : Int) ≤ (k : Int) := by omega
      have hrin := HI.out k _ hab
      simp only at hrin
      have hput := Lib.hid (Cl.putL_take l k _ hab)
      have ha9 := Cl.hexI_len a hrin.1 hrin.2.1
      have hb9 := Cl.hexI_len b hrin.2.2.1 hrin.2.2.2
      have hca := rhex_any a
      have hcb := rhex_any b
      have HT := ht
      have hzt := Lib.hid (txts_size ht.out)
      generalize Cl.putL (l.take k) = acc at *
      clear hab ht
      rcases Nat.eq_zero_or_pos k with hk0 | hkp
      · subst hk0
        simp only [if_true, List.append_nil] at hput
        simp only [Nat.zero_mul, Nat.add_zero] at c1 c2
        by_cases he : b = a
        · subst he
          have hR : Hid (Cl.putR (b, b) = Cl.hexI b) := Lib.hid (by simp [Cl.putR])
          generalize Cl.hexI b = D at *
          have hfull := Lib.hid (txts_app HT.out (txts_mk D))
          go_wp2_with fail
          refine (hca wr (by omega) (by omega)).mono ?_
          rintro e w' ⟨rfl, rfl⟩
          go_wp2_with fail
          go_quiet (fail)
          go_wp2_with fail
          go_roundw
          case rel => exact ⟨0 + 1, _, by go_num, rfl, by omega, Lib.hid (by rw [hput.out, hR.out]; simpa using hfull.out), (by have h := txts_size hfull.out; have h2 := hzt.out; simp at h ⊢; omega), bdrewN br⟩
          case measure => simp [intOf]; omega
        · have he' : ¬ a = b := fun e => he e.symm
          have hR : Hid (Cl.putR (a, b) = Cl.hexI a ++ 45 :: Cl.hexI b) := Lib.hid (by simp [Cl.putR, he])
          generalize Cl.hexI a = D at *
          generalize Cl.hexI b = F at *
          have hfull := Lib.hid (txts_app (txts_app (txts_app HT.out (txts_mk D)) (txts_mk [45])) (txts_mk F))
          go_wp2_with fail
          refine (hca wr (by omega) (by omega)).mono ?_
          rintro e w' ⟨rfl, rfl⟩
          go_wp2_with fail
          go_quiet (fail)
          go_wp2_with fail
          refine (hcb (wr.drewN nq) (by omega) (by omega)).mono ?_
          rintro e w' ⟨rfl, rfl⟩
          go_wp2_with fail
          go_roundw
          case rel => exact ⟨0 + 1, _, by go_num, rfl, by omega, Lib.hid (by rw [hput.out, hR.out]; simpa using hfull.out), (by have h := txts_size hfull.out; have h2 := hzt.out; simp at h ⊢; omega), bdrewN br⟩
          case measure => simp [intOf]; omega
      · have hkn : ¬ k = 0 := by omega
        have hkp' : (0 : Int) < (k : Int) := by omega
        simp only [hkn, if_false] at hput
        by_cases he : b = a
        · subst he
          have hR : Hid (Cl.putR (b, b) = Cl.hexI b) := Lib.hid (by simp [Cl.putR])
          generalize Cl.hexI b = D at *
          have hfull := Lib.hid (txts_app (txts_app HT.out (txts_mk [44])) (txts_mk D))
          go_wp2_with fail
          refine (hca wr (by omega) (by omega)).mono ?_
          rintro e w' ⟨rfl, rfl⟩
          go_wp2_with fail
          go_quiet (fail)
          go_wp2_with fail
          go_roundw
          case rel => exact ⟨k + 1, _, by go_num, rfl, by omega, Lib.hid (by rw [hput.out, hR.out]; simpa using hfull.out), (by have h := txts_size hfull.out; have h2 := hzt.out; simp at h ⊢; omega), bdrewN br⟩
          case measure => simp [intOf]; omega
        · have he' : ¬ a = b := fun e => he e.symm
          have hR : Hid (Cl.putR (a, b) = Cl.hexI a ++ 45 :: Cl.hexI b) := Lib.hid (by simp [Cl.putR, he])
          generalize Cl.hexI a = D at *
          generalize Cl.hexI b = F at *
          have hfull := Lib.hid (txts_app (txts_app (txts_app (txts_app HT.out (txts_mk [44])) (txts_mk D)) (txts_mk [45])) (txts_mk F))
          go_wp2_with fail
          refine (hca wr (by omega) (by omega)).mono ?_
          rintro e w' ⟨rfl, rfl⟩
          go_wp2_with fail
          go_quiet (fail)
          go_wp2_with fail
          refine (hcb (wr.drewN nq) (by omega) (by omega)).mono ?_
          rintro e w' ⟨rfl, rfl⟩
          go_wp2_with fail
          go_roundw
          case rel => exact ⟨k + 1, _, by go_num, rfl, by omega, Lib.hid (by rw [hput.out, hR.out]; simpa using hfull.out), (by have h := txts_size hfull.out; have h2 := hzt.out; simp at h ⊢; omega), bdrewN br⟩
          case measure => simp [intOf]; omega
    · obtain rfl : k = l.length := by omega
      have he := txts_eq ht.out
      rw [List.take_length] at he
      have HE := Lib.hid he
      clear ht he
      go_wp2_with fail
      go_ret
      exact ⟨by rw [← HE.out]; rfl, br⟩
end Go.Proofs.YtpnakbhbaghhgaaDoor
