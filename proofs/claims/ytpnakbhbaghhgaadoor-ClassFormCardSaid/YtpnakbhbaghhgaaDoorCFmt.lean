/- strconv.FormatInt to the base 16. -/
import Derived.Test.YtpnakbhbaghhgaaDoorCHex
set_option linter.unusedVariables false
namespace Go.Proofs.YtpnakbhbaghhgaaDoor
open Go.RowKit

/- the one cell of the library's table that is read -/
def Tab (w : World) : Prop := w.cell? ⟨2, 15, none⟩ = some (.int .u8 4) ∧ 2 < w.heap.size
theorem Tab.below {w w' : World} (h : Tab w) (hb : Below w.heap.size w w') : Tab w' := ⟨(hb.cell (p := ⟨_, 15, none⟩) h.2).trans h.1, Nat.lt_of_lt_of_le h.2 hb.size⟩
theorem tz64_any (w : World) (h : Tab w) : Calls Tryd.prog 76 #[.int .u64 16] w fun e w' => e = .returned (.int .i64 4) ∧ w = w' := by
  have h1 := h.1
  have e1 : IntKind.u64.wrap (-16) = 18446744073709551600 := by decide +kernel
  have e2 : bits .and .u64 16 18446744073709551600 = 16 := by decide +kernel
  have e3 : IntKind.u64.wrap (16 * 285870213051353865) = 4573923408821661840 := by decide +kernel
  have e4 : IntKind.u64.wrap 4573923408821661840 = 4573923408821661840 := by decide +kernel
  go_enter Tryd.func76, Tryd.ntmps76
  go_wp2_with fail
  go_ret
  exact ⟨rfl, rfl⟩
theorem tz_any (w : World) (h : Tab w) : Calls Tryd.prog 73 #[.int .u64 16] w fun e w' => e = .returned (.int .i64 4) ∧ w = w' := by
  go_enter Tryd.func73, Tryd.ntmps73
  go_wp2_with fail
  refine (tz64_any _ h).mono ?_
  rintro e w' ⟨rfl, rfl⟩
  go_wp2_with fail
  go_ret
  exact ⟨rfl, rfl⟩
theorem pow2_any (w : World) : Calls Tryd.prog 72 #[.int .i64 16] w fun e w' => e = .returned (.bool true) ∧ w = w' := by
  go_enter Tryd.func72, Tryd.ntmps72
  go_wp2_with fail
  go_ret
  exact ⟨rfl, rfl⟩
/- the low four bits -/
theorem and_15 (n : Nat) (h : n < 18446744073709551616) : bits .and .u64 (n : Int) 15 = ((n % 16 : Nat) : Int) := by
  have := u64_and_nat n 15 h (by omega)
  rw [show (15 : Nat) = 2 ^ 4 - 1 from rfl, Nat.and_two_pow_sub_one_eq_mod] at this
  exact this
theorem alpha_at (d : Nat) (h : d < 16) : ∀ h', (⟨#[48, 49, 50, 51, 52, 53, 54, 55, 56, 57, 97, 98, 99, 100, 101, 102, 103, 104, 105, 106, 107, 108, 109, 110, 111, 112, 113, 114, 115, 116, 117, 118, 119, 120, 121, 122]⟩ : ByteArray)[d]'h' = Cl.hexC d := by
  intro h'
  have key : ∀ e : Fin 16, (#[48, 49, 50, 51, 52, 53, 54, 55, 56, 57, 97, 98, 99, 100, 101, 102, 103, 104, 105, 106, 107, 108, 109, 110, 111, 112, 113, 114, 115, 116, 117, 118, 119, 120, 121, 122] : Array UInt8)[e.val]? = some (Cl.hexC e.val) := by decide +kernel
  have := key ⟨d, h⟩
  obtain ⟨_, h2⟩ := Array.getElem?_eq_some_iff.1 this
  exact h2
/- the row of a[65], the digits from i on -/
structure FB (w0 : World) (n : Nat) (A : List UInt8) (i N : Nat) (w : World) : Prop where
  row : Bts0 w w0.heap.size A
  len : A.length = 65
  le : 49 ≤ i ∧ i ≤ 65
  big : N < 16 ^ (i - 48)
  top : N ≤ n
  tab : Cl.hexD N ++ A.drop i = Cl.hexD n
  bel : Below w0.heap.size w0 w
  lt : w0.heap.size < w.heap.size
theorem drop_put {A : List UInt8} {i : Nat} (hi : i < A.length) (x : UInt8) : (A.set i x).drop i = x :: A.drop (i + 1) := by
  rw [List.drop_eq_getElem_cons (by simpa using hi)]
  simp [List.drop_set]
theorem FB.step {w0 w : World} {n N i : Nat} {A : List UInt8} (h : FB w0 n A i N w) (hN : 16 ≤ N) : 50 ≤ i ∧ FB w0 n (A.set (i - 1) (Cl.hexC (N % 16))) (i - 1) (N / 16) (w.setCell ⟨w0.heap.size, i - 1, none⟩ (.int .u8 ((Cl.hexC (N % 16)).toNat : Int))) := by
  have h1 := h.le
  have h2 := h.big
  have h50 : 50 ≤ i := by
    rcases (show i = 49 ∨ 50 ≤ i by omega) with rfl | h3
    · simp at h2; omega
    · exact h3
  refine ⟨h50, h.row.set (i - 1) (by rw [h.len]; omega) _, by simp [h.len], by omega, ?_, by have := h.top; omega, ?_, h.bel.setCell (by simp) _, by simpa using h.lt⟩
  · rw [show i - 48 = (i - 1 - 48) + 1 by omega, Nat.pow_succ] at h2
    omega
  · rw [drop_put (by rw [h.len]; omega), show i - 1 + 1 = i by omega, ← h.tab, Cl.hexD_big (show ¬ N < 16 by omega)]
    simp
theorem FB.last {w0 w : World} {n N i : Nat} {A : List UInt8} (h : FB w0 n A i N w) (hN : N < 16) :
    Bts0 (w.setCell ⟨w0.heap.size, i - 1, none⟩ (.int .u8 ((Cl.hexC N).toNat : Int))) w0.heap.size (A.set (i - 1) (Cl.hexC N)) ∧ (A.set (i - 1) (Cl.hexC N)).drop (i - 1) = Cl.hexD n := by
  have h1 := h.le
  refine ⟨h.row.set (i - 1) (by rw [h.len]; omega) _, ?_⟩
  rw [drop_put (by rw [h.len]; omega), show i - 1 + 1 = i by omega, ← h.tab, Cl.hexD_small hN]; rfl
theorem fb_new (n : Nat) (w : World) (hn : n ≤ 4294967296) : FB w n (List.replicate 65 0) 65 n (w.alloc (.cells Tryd.zeroCells111 111)) := by
  have hz : Tryd.zeroCells111.toList = List.replicate 65 (.int .u8 0) := by kernel_rfl
  refine ⟨⟨fun j hj => ?_, fun j hj => ?_⟩, by simp, by omega, by simp; omega, Nat.le_refl _, by simp, Below.alloc (Below.refl _ _) (Nat.le_refl _) _, by simp⟩
  · have hj' : j < 65 := by simpa using hj
    rw [show (0 : Nat) + j = j by omega, World.cell?_alloc_at _ _ _ _ rfl, ← Array.getElem?_toList, hz, List.getElem?_replicate, if_pos hj', List.getElem_replicate]
    rfl
  · rw [World.frozen?_alloc_at _ _ _ _ rfl]
theorem bts_drop {w : World} {g : Nat} {A : List UInt8} (h : Bts0 w g A) (i : Nat) : Bts w g i (A.drop i) := by
  intro j hj
  have hj' : i + j < A.length := by simp at hj; omega
  have := h.get (i + j) hj' rfl
  rw [this]; simp
set_option maxRecDepth 20000 in
set_option maxHeartbeats 4000000 in
theorem fmtbits_pos (n : Nat) (w : World) (hT : Tab w) (hn : n ≤ 4294967296) :
    Calls Tryd.prog 64 #[.slice none 0 0, .int .u64 (n : Int), .int .i64 16, .bool false, .bool false] w fun e w' => e = .returned (.tuple #[.slice none 0 0, .string ⟨(Cl.hexD n).toArray⟩]) ∧ Below w.heap.size w w' := by
  have hb := fb_new n w hn
  go_enter Tryd.func64, Tryd.ntmps64
  go_wp2_with fail
  generalize w.alloc (.cells Tryd.zeroCells111 111) = wa at *
  refine (pow2_any _).mono ?_
  rintro e w' ⟨rfl, rfl⟩
  go_wp2_with fail
  have hTa : Tab wa := hT.below hb.bel
  refine (tz_any _ hTa).mono ?_
  rintro e w' ⟨rfl, rfl⟩
  go_wp2_with fail
  go_loopw [1, 13] (fun x i wr => ∃ (N k : Nat) (A : List UInt8), x = .int .u64 (N : Int) ∧ i = .int .i64 (k : Int) ∧ Hid (FB w n A k N wr)) (fun x _ _ => (intOf x).toNat)
  case atStart => exact ⟨n, 65, _, rfl, rfl, Lib.hid hb⟩
  case round =>
    obtain ⟨N, k, A, rfl, rfl, hF⟩ := hrel
    by_cases h16 : 16 ≤ N
    · obtain ⟨h50, hS⟩ := hF.out.step h16
      have h16' : (16 : Int) ≤ (N : Int) := by omega
      have k1 := hF.out.le
      have r1 := hF.out.row.get (k - 1) (by rw [hF.out.len]; omega) rfl
      have r2 := hF.out.row.free (k - 1) (by rw [hF.out.len]; omega)
      obtain ⟨i, rfl⟩ : ∃ i, k = i + 1 := ⟨k - 1, by omega⟩
      simp only [Nat.add_sub_cancel] at r1 r2 hS
      have ha := and_15 N (by have := hF.out.top; omega)
      have hx := alpha_at (N % 16) (Nat.mod_lt _ (by decide))
      have HS := Lib.hid hS
      have i1 : IntKind.i64.wrap ((i : Int) + 1 - 1) = (i : Int) := (IntWalk.i64_in _ ⟨by omega, by omega⟩).trans (by omega)
      have i2 : (0 : Int) ≤ (i : Int) := by omega
      have i3 : (i : Int) < 65 := by omega
      clear hS
      go_wp2_with fail
      go_roundw
      case rel => exact ⟨N / 16, i, _, val_int (by omega), rfl, HS⟩
      case measure => simp [intOf]; omega
    · obtain ⟨hL, hD⟩ := hF.out.last (show N < 16 by omega)
      have k1 := hF.out.le
      have r1 := hF.out.row.get (k - 1) (by rw [hF.out.len]; omega) rfl
      have r2 := hF.out.row.free (k - 1) (by rw [hF.out.len]; omega)
      obtain ⟨i, rfl⟩ : ∃ i, k = i + 1 := ⟨k - 1, by omega⟩
      simp only [Nat.add_sub_cancel] at r1 r2 hL hD
      have hx := alpha_at N (by omega)
      have i1 : IntKind.i64.wrap ((i : Int) + 1 - 1) = (i : Int) := (IntWalk.i64_in _ ⟨by omega, by omega⟩).trans (by omega)
      have i2 : (0 : Int) ≤ (i : Int) := by omega
      have i3 : (i : Int) < 65 := by omega
      have i4 : (i : Int) ≤ 65 := by omega
      have n1 : ((N : Nat) : Int) < 36 := by omega
      have n2 : ((N : Nat) : Int) < 16 := by omega
      have hb2 := hF.out.bel.setCell (p := ⟨w.heap.size, i, none⟩) (by simp) (.int .u8 ((Cl.hexC N).toNat : Int))
      have hlen : 65 - i = (Cl.hexD n).length := by rw [← hD]; simp [hF.out.len]
      have hcv := string_at (P := Tryd.prog) _ 63 9 5 w.heap.size i (65 - i) (65 - i) _ Tryd.underlying63 Tryd.underlying5 Tryd.underlying9 (hD ▸ bts_drop hL i) hlen
      clear hL hD hlen
      go_wp2_with fail
      exact bodyPost_ret (v := .tuple #[.slice none 0 0, .string ⟨(Cl.hexD n).toArray⟩]) (by simp [results, Tryd.results64, go_sem]) rfl ⟨rfl, hb2⟩
set_option maxRecDepth 20000 in
set_option maxHeartbeats 4000000 in
theorem fmtbits_neg (n : Nat) (w : World) (hT : Tab w) (hn : n ≤ 4294967296) (u : Int) (hu : IntKind.u64.wrap (-u) = (n : Int)) :
    Calls Tryd.prog 64 #[.slice none 0 0, .int .u64 u, .int .i64 16, .bool true, .bool false] w fun e w' => e = .returned (.tuple #[.slice none 0 0, .string ⟨(45 :: Cl.hexD n).toArray⟩]) ∧ Below w.heap.size w w' := by
  have hb := fb_new n w hn
  go_enter Tryd.func64, Tryd.ntmps64
  go_wp2_with fail
  generalize w.alloc (.cells Tryd.zeroCells111 111) = wa at *
  refine (pow2_any _).mono ?_
  rintro e w' ⟨rfl, rfl⟩
  go_wp2_with fail
  have hTa : Tab wa := hT.below hb.bel
  refine (tz_any _ hTa).mono ?_
  rintro e w' ⟨rfl, rfl⟩
  go_wp2_with fail
  go_loopw [1, 13] (fun x i wr => ∃ (N k : Nat) (A : List UInt8), x = .int .u64 (N : Int) ∧ i = .int .i64 (k : Int) ∧ Hid (FB w n A k N wr)) (fun x _ _ => (intOf x).toNat)
  case atStart => exact ⟨n, 65, _, rfl, rfl, Lib.hid hb⟩
  case round =>
    obtain ⟨N, k, A, rfl, rfl, hF⟩ := hrel
    by_cases h16 : 16 ≤ N
    · obtain ⟨h50, hS⟩ := hF.out.step h16
      have h16' : (16 : Int) ≤ (N : Int) := by omega
      have k1 := hF.out.le
      have r1 := hF.out.row.get (k - 1) (by rw [hF.out.len]; omega) rfl
      have r2 := hF.out.row.free (k - 1) (by rw [hF.out.len]; omega)
      obtain ⟨i, rfl⟩ : ∃ i, k = i + 1 := ⟨k - 1, by omega⟩
      simp only [Nat.add_sub_cancel] at r1 r2 hS
      have ha := and_15 N (by have := hF.out.top; omega)
      have hx := alpha_at (N % 16) (Nat.mod_lt _ (by decide))
      have HS := Lib.hid hS
      have i1 : IntKind.i64.wrap ((i : Int) + 1 - 1) = (i : Int) := (IntWalk.i64_in _ ⟨by omega, by omega⟩).trans (by omega)
      have i2 : (0 : Int) ≤ (i : Int) := by omega
      have i3 : (i : Int) < 65 := by omega
      clear hS
      go_wp2_with fail
      go_roundw
      case rel => exact ⟨N / 16, i, _, val_int (by omega), rfl, HS⟩
      case measure => simp [intOf]; omega
    · obtain ⟨hL, hD⟩ := hF.out.last (show N < 16 by omega)
      have k1 := hF.out.le
      have r1 := hF.out.row.get (k - 1) (by rw [hF.out.len]; omega) rfl
      have r2 := hF.out.row.free (k - 1) (by rw [hF.out.len]; omega)
      obtain ⟨i, rfl⟩ : ∃ i, k = i + 1 := ⟨k - 1, by omega⟩
      simp only [Nat.add_sub_cancel] at r1 r2 hL hD
      have hx := alpha_at N (by omega)
      have i1 : IntKind.i64.wrap ((i : Int) + 1 - 1) = (i : Int) := (IntWalk.i64_in _ ⟨by omega, by omega⟩).trans (by omega)
      have i2 : (0 : Int) ≤ (i : Int) := by omega
      have i3 : (i : Int) < 65 := by omega
      have i4 : (i : Int) ≤ 65 := by omega
      have n1 : ((N : Nat) : Int) < 36 := by omega
      have n2 : ((N : Nat) : Int) < 16 := by omega
      have hb2 := hF.out.bel.setCell (p := ⟨w.heap.size, i, none⟩) (by simp) (.int .u8 ((Cl.hexC N).toNat : Int))
      have hlen : 65 - i = (Cl.hexD n).length := by rw [← hD]; simp [hF.out.len]
      obtain ⟨j, rfl⟩ : ∃ j, i = j + 1 := ⟨i - 1, by omega⟩
      have hA2 : (A.set (j + 1) (Cl.hexC N)).length = 65 := by simp [hF.out.len]
      have hL2 := hL.set j (by rw [hA2]; omega) 45
      have hD2 : ((A.set (j + 1) (Cl.hexC N)).set j 45).drop j = 45 :: Cl.hexD n := by rw [drop_put (by rw [hA2]; omega), hD]
      have hlen2 : 65 - j = (45 :: Cl.hexD n).length := by rw [← hD2]; simp [hF.out.len]
      have s1 := hL.get j (by rw [hA2]; omega) rfl
      have s2 := hL.free j (by rw [hA2]; omega)
      have hcv := string_at (P := Tryd.prog) _ 63 9 5 w.heap.size j (65 - j) (65 - j) _ Tryd.underlying63 Tryd.underlying5 Tryd.underlying9 (hD2 ▸ bts_drop hL2 j) hlen2
      have hb3 := hb2.setCell (p := ⟨w.heap.size, j, none⟩) (by simp) (.int .u8 ((45 : UInt8).toNat : Int))
      have j1 : IntKind.i64.wrap ((j : Int) + 1 - 1) = (j : Int) := (IntWalk.i64_in _ ⟨by omega, by omega⟩).trans (by omega)
      have j2 : (0 : Int) ≤ (j : Int) := by omega
      have j3 : (j : Int) < 65 := by omega
      have j4 : (j : Int) ≤ 65 := by omega
      have j5 : (0 : Int) ≤ (j : Int) + 1 := by omega
      have j6 : (j : Int) + 1 < 65 := by omega
      have j7 : IntKind.i64.wrap ((j : Int) + 1 + 1 - 1) = (j : Int) + 1 := (IntWalk.i64_in _ ⟨by omega, by omega⟩).trans (by omega)
      have j8 : ((j : Int) + 1).toNat = j + 1 := by omega
      rw [show ((45 : UInt8).toNat : Int) = 45 from rfl] at hcv hb3
      clear hL hD hL2 hD2 hlen hlen2
      go_wp2_with fail
      exact bodyPost_ret (v := .tuple #[.slice none 0 0, .string ⟨(45 :: Cl.hexD n).toArray⟩]) (by simp [results, Tryd.results64, go_sem]) rfl ⟨rfl, hb3⟩
theorem ifmt_any (r : Int) (w : World) (hT : Tab w) (h0 : -2147483648 ≤ r) (h1 : r ≤ 2147483647) : Calls Tryd.prog 50 #[.int .i64 r, .int .i64 16] w fun e w' => e = .returned (.string ⟨(Cl.hexI r).toArray⟩) ∧ Below w.heap.size w w' := by
  by_cases hr : r < 0
  · obtain ⟨n, rfl⟩ : ∃ n : Nat, r = -(n : Int) := ⟨(-r).toNat, by omega⟩
    have e1 : Cl.hexI (-(n : Int)) = 45 :: Cl.hexD n := by
      unfold Cl.hexI; rw [if_pos hr]; congr 2; omega
    have hu : IntKind.u64.wrap (-(IntKind.u64.wrap (-(n : Int)))) = (n : Int) := by
      simp [IntKind.wrap, IntKind.bits, IntKind.signed]; omega
    have hcon := fmtbits_neg n w hT (by omega) _ hu
    have hn0 : 0 < n := by omega
    have hn1 : decide (0 < n) = true := decide_eq_true hn0
    rw [e1]
    clear hu e1
    generalize Cl.hexD n = D at *
    generalize hg : IntKind.u64.wrap (-(n : Int)) = U at *
    go_enter Tryd.func50, Tryd.ntmps50
    go_wp2_with fail
    refine hcon.mono ?_
    rintro e w1 ⟨rfl, hw1⟩
    clear hcon hT
    go_wp2_with fail
    go_ret
    exact ⟨rfl, hw1⟩
  · obtain ⟨n, rfl⟩ : ∃ n : Nat, r = (n : Int) := ⟨r.toNat, by omega⟩
    have e1 : Cl.hexI (n : Int) = Cl.hexD n := by
      unfold Cl.hexI; rw [if_neg hr]; congr 1
    have hu : IntKind.u64.wrap (n : Int) = (n : Int) := by
      simp [IntKind.wrap, IntKind.bits, IntKind.signed]; omega
    have hcon := fmtbits_pos n w hT (by omega)
    rw [e1]
    clear e1
    generalize Cl.hexD n = D at *
    go_enter Tryd.func50, Tryd.ntmps50
    go_wp2_with fail
    refine hcon.mono ?_
    rintro e w1 ⟨rfl, hw1⟩
    clear hcon hT
    go_wp2_with fail
    go_ret
    exact ⟨rfl, hw1⟩
theorem cdigits_any (r : Int) (w : World) (hT : Tab w) (h0 : -2147483648 ≤ r) (h1 : r ≤ 2147483647) : Calls Tryd.prog 36 #[.int .i32 r] w fun e w' => e = .returned (.string ⟨(Cl.hexI r).toArray⟩) ∧ Below w.heap.size w w' := by
  have w1 : IntKind.i64.wrap r = r := IntWalk.i64_in _ ⟨by omega, by omega⟩
  have hcon : Calls Tryd.prog 44 #[.int .i64 r, .int .i64 16] w fun e w' => e = .returned (.string ⟨(Cl.hexI r).toArray⟩) ∧ Below w.heap.size w w' := by
    have hcon := ifmt_any r w hT h0 h1
    clear hT
    generalize Cl.hexI r = D at *
    go_enter Tryd.func44, Tryd.ntmps44
    go_wp2_with fail
    refine hcon.mono ?_
    rintro e w1 ⟨rfl, hw1⟩
    clear hcon
    go_wp2_with fail
    go_ret
    exact ⟨rfl, hw1⟩
  clear hT
  generalize Cl.hexI r = D at *
  go_enter Tryd.func36, Tryd.ntmps36
  go_wp2_with fail
  refine hcon.mono ?_
  rintro e w1 ⟨rfl, hw1⟩
  clear hcon
  go_wp2_with fail
  go_ret
  exact ⟨rfl, hw1⟩
end Go.Proofs.YtpnakbhbaghhgaaDoor
