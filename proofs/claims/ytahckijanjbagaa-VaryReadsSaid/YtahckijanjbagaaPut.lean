/- What is put. -/
import Derived.Test.YtahckijanjbagaaVary
import Derived.Shelf.Strconv.Itoa0
import Derived.LoopN
set_option linter.unusedVariables false
namespace Go.Proofs.Ytahckijanjbagaa
open Go.RowKit
section
open Go.Shelf
def len64_ren : Go.Shelf.Ren := ⟨fun | 129 => 20 | n => n, fun | 53 => 26 | 3 => 3 | 4 => 4 | 46 => 52 | 5 => 5 | 9 => 9 | n => n, fun | n => n⟩
theorem len64_lays : Go.Proofs.Lays.n129 Try.prog len64_ren := {
  mixed := by kernel_rfl
  f129 := Try.func20.trans (congrArg some (by kernel_rfl))
  t3 := Try.underlying3
  a3 := Try.isAgg3
  z3 := Try.sizeOf3
  v3 := Try.zeroValue3
  t4 := Try.underlying4
  a4 := Try.isAgg4
  z4 := Try.sizeOf4
  v4 := Try.zeroValue4
  t5 := Try.underlying5
  a5 := Try.isAgg5
  z5 := Try.sizeOf5
  v5 := Try.zeroValue5
  t9 := Try.underlying9
  a9 := Try.isAgg9
  z9 := Try.sizeOf9
  v9 := Try.zeroValue9
  t46 := Try.underlying52
  a46 := Try.isAgg52
  z46 := Try.sizeOf52
  v46 := Try.zeroValue52
  t53 := Try.underlying26
  a53 := Try.isAgg26
  z53 := Try.sizeOf26
  v53 := Try.zeroValue26 }
end
theorem len64_any (n b : Nat) (w : World) (hn : n < 18446744073709551616) (hb : Lib.bitLen n = b) :
    Calls Try.prog 20 #[.int .u64 (n : Int)] w fun e w' => e = .returned (.int .i64 (b : Int)) ∧ w = w' := by
  subst hb
  exact (Any.bits_Len64 len64_lays (n : Int) w (by omega) (by omega)).mono fun e w' h => ⟨by rw [h.1]; rfl, h.2.symm⟩

theorem Try.uBytes : Try.prog.underlying 51 = some (.slice 5) := Try.underlying51
/- k bytes are written -/
def PutAt (n L g B k : Nat) (w0 w : World) : Prop := Bts0 w g (Vr.wr n k ++ List.replicate (L - k) 0) ∧ Below B w0 w
theorem PutAt.step {n L g B k : Nat} {w0 w : World} (h : PutAt n L g B k w0 w) (hk : k < L) (hg : B ≤ g) (x : Int) (hx : x = ((n / 128 ^ k % 128 + 128 : Nat) : Int)) :
    PutAt n L g B (k + 1) w0 (w.setCell ⟨g, k, none⟩ (.int .u8 x)) := by
  have h1 := h.1.set k (by simp [Vr.wr_len]; omega) (UInt8.ofNat (n / 128 ^ k % 128 + 128))
  rw [Vr.u8_small (by omega), ← hx] at h1
  refine ⟨?_, h.2.setCell hg _⟩
  rw [Vr.wr_succ, List.append_assoc]
  have e : List.replicate (L - k) (0 : UInt8) = 0 :: List.replicate (L - (k + 1)) 0 := by
    rw [show L - k = (L - (k + 1)) + 1 from by omega, List.replicate_succ]
  rw [e] at h1
  have e2 : (Vr.wr n k ++ 0 :: List.replicate (L - (k + 1)) 0).set k (UInt8.ofNat (n / 128 ^ k % 128 + 128)) = Vr.wr n k ++ ([UInt8.ofNat (n / 128 ^ k % 128 + 128)] ++ List.replicate (L - (k + 1)) 0) := by
    rw [List.set_append_right _ _ (by simp [Vr.wr_len])]
    simp [Vr.wr_len]
  rw [e2] at h1
  exact h1
theorem put_walk (n b L : Nat) (w : World) (hn : n < 18446744073709551616) (hb : Lib.bitLen n = b) (hb64 : b ≤ 64) (hL : (Vr.put n).length = L) (hm : L = max 1 ((b + 7 - 1) / 7)) :
    Calls Try.prog 5 #[.int .u64 (n : Int)] w fun x w' => x = .returned (.string ⟨(Vr.put n).toArray⟩) ∧ Below w.heap.size w w' := by
  have H := Lib.hid hb
  have L10 : L ≤ 10 := by omega
  have L1 : 1 ≤ L := by omega
  have hmx : max 1 (((b : Int) + 7 - 1) / 7) = (L : Int) := by omega
  obtain ⟨w1, hr, hz, hbl, hB⟩ := make_bytes_spec (P := Try.prog) w 51 5 L Try.uBytes (by kernel_rfl) (by omega)
  have HB := Lib.hid hB
  have HZ := Lib.hid hz
  have HL := Lib.hid hL
  clear hb hL hm hB hz
  go_enter Try.func5, Try.ntmps5
  go_wp2_with fail
  refine (len64_any n b _ hn H.out).mono ?_
  rintro e w' ⟨rfl, rfl⟩
  go_wp2_with fail
  clear hr hmx
  go_loopw [0, 15] (fun m i wr => ∃ k : Nat, k ≤ L ∧ i = .int .i64 k ∧ m = .int .u64 ((n / 128 ^ k : Nat) : Int) ∧ PutAt n L w.heap.size w.heap.size k w wr) (fun _ i _ => L - (intOf i).toNat)
  case atStart => exact ⟨0, Nat.zero_le _, rfl, by simp, by simpa [PutAt, Vr.wr] using ⟨HB.out, hbl⟩⟩
  case round =>
    obtain ⟨k, hk, rfl, rfl, hP⟩ := hrel
    have HP := Lib.hid hP
    have hmb : n / 128 ^ k < 18446744073709551616 := Nat.lt_of_le_of_lt (Nat.div_le_self _ _) hn
    by_cases hlt : k < L
    · have f1 := hP.1.free k (by simp [Vr.wr_len]; omega)
      obtain ⟨c, hc⟩ : ∃ c, wr.cell? ⟨w.heap.size, k, none⟩ = some c := ⟨_, hP.1.get k (by simp [Vr.wr_len]; omega) rfl⟩
      have hdv : n / 128 ^ (k + 1) = n / 128 ^ k / 128 := by rw [Vr.pow_succ', Nat.mul_comm, Nat.div_div_eq_div_mul]
      have HD := Lib.hid hdv
      clear hP hdv
      obtain ⟨m, hm⟩ : ∃ m, m = n / 128 ^ k := ⟨_, rfl⟩
      rw [← hm] at hmb HD ⊢
      have HM := Lib.hid hm
      clear hm
      go_wp2_with fail
      go_roundw
      case rel => exact ⟨k + 1, by omega, by go_num, by rw [HD.out]; go_num, HP.out.step hlt (Nat.le_refl _) _ (by rw [← HM.out]; exact Vr.or_256 m)⟩
      case measure => simp [intOf]; omega
    · obtain rfl : k = L := by omega
      obtain ⟨M, hM⟩ : ∃ M, k = M + 1 := ⟨k - 1, by omega⟩
      have hB := hP.1
      rw [Nat.sub_self, List.replicate_zero, List.append_nil, hM, Vr.wr_succ] at hB
      have hg := hB.get M (by simp [Vr.wr_len]) (x := UInt8.ofNat (n / 128 ^ M % 128 + 128)) (by simp [Vr.wr_len])
      rw [Vr.u8_small (by omega)] at hg
      have hf := hB.free M (by simp [Vr.wr_len])
      have hst := hB.set M (by simp [Vr.wr_len]) (UInt8.ofNat (n / 128 ^ M % 128))
      rw [Vr.u8_small (by omega), List.set_append_right _ _ (by simp [Vr.wr_len])] at hst
      have hp := Vr.wr_put n
      rw [HL.out, hM, show M + 1 - 1 = M from rfl] at hp
      simp only [Vr.wr_len, Nat.sub_self, List.set_cons_zero] at hst
      rw [← hp] at hst
      have hbs := hP.2.setCell (p := ⟨w.heap.size, M, none⟩) (Nat.le_refl _) (.int .u8 ((n / 128 ^ M % 128 : Nat) : Int))
      have hA := Vr.and_not (n / 128 ^ M % 128 + 128) (by omega)
      rw [show (n / 128 ^ M % 128 + 128) % 128 = n / 128 ^ M % 128 from by omega] at hA
      have hi : (k : Int) - 1 = (M : Int) := by omega
      have HM := Lib.hid hM
      have HB := Lib.hid hB
      have HS := Lib.hid hst
      clear hp hP hM hB hst HP hmb
      generalize n / 128 ^ M % 128 = c at *
      generalize c + 128 = d at *
      go_wp2_with fail
      rw [string_spec (P := Try.prog) _ 51 9 5 w.heap.size k k (Vr.put n) Try.uBytes Try.underlying5 Try.underlying9 HS.out.1 HL.out.symm]
      go_wp2_with fail
      go_ret
      exact ⟨rfl, hbs⟩
theorem put_any (n : Nat) (w : World) (hn : n < 18446744073709551616) :
    Calls Try.prog 5 #[.int .u64 (n : Int)] w fun x w' => x = .returned (.string ⟨(Vr.put n).toArray⟩) ∧ Below w.heap.size w w' :=
  put_walk n _ _ w hn rfl (Vr.bits_bd n hn) rfl (Vr.put_len_bits n hn)
theorem put_size (n : Nat) : ByteArray.size ⟨(Vr.put n).toArray⟩ = (Vr.put n).length := by simp only [ByteArray.size, List.size_toArray]
theorem ptext_any (s : ByteArray) (w : World) (hs : s.size ≤ 140737488351232) :
    Calls Try.prog 6 #[.string s] w fun x w' => x = .returned (.string (⟨(Vr.put s.size).toArray⟩ ++ s)) ∧ Below w.heap.size w w' := by
  have hp := Vr.put_len_le (n := s.size) (by omega)
  go_enter Try.func6, Try.ntmps6
  go_wp2_with fail
  refine (put_any s.size _ (by omega)).mono ?_
  rintro e w1 ⟨rfl, hw1⟩
  have zw1 := hw1.size
  try simp at zw1
  go_wp2_with fail
  go_ret
  exact ⟨rfl, (by repeat' (first | exact Below.refl _ _ | (refine Below.drew ?_) | (refine Below.alloc ?_ (by first | omega | (simp <;> omega)) _) | (refine Below.setCell ?_ (by first | omega | (simp <;> omega)) _) | (refine Below.trans ?_ (Below.mono (by assumption) (by first | omega | (simp <;> omega))))))⟩

-- the document's own answer
theorem Try.infoU8 : (Try.prog.info? 5).map (fun i => (i.zero, i.size, i.bytes)) = some (some (.int .u8 0), 1, 1) := by kernel_rfl
/- what the rounds append -/
set_option maxRecDepth 20000 in
theorem rput_any (n : Nat) (w : World) (hn : n < 18446744073709551616) :
    Calls Try.prog 8 #[.int .u64 (n : Int)] w fun x w' => x = .returned (.string ⟨(Vr.put n).toArray⟩) ∧ Below w.heap.size w w' := by
  obtain ⟨i0, hi, hz0, hz1, hz2⟩ := info_parts Try.infoU8
  go_enter Try.func8, Try.ntmps8
  go_wp2_with fail
  go_loopw [3, 0] (fun v m wr => ∃ (k c : Nat) (l : List UInt8), k = l.length ∧ Vr.put n = l ++ Vr.put c ∧ c < 18446744073709551616 ∧ m = .int .u64 (c : Int) ∧ wr.ownsRow w.heap.size 5 1 v k (u8s l) ∧ Below w.heap.size w wr) (fun _ m _ => (intOf m).toNat)
  case atStart => exact ⟨0, n, [], rfl, rfl, hn, rfl, World.ownsRow_nil _ _ _ _, Below.refl _ _⟩
  case round =>
    obtain ⟨k, c, l, rfl, hl, hc, rfl, hown, hnx⟩ := hrel
    have hlb : l.length ≤ 9 := by
      have h1 := congrArg List.length hl
      have h2 := Vr.put_pos c
      have h3 := Vr.put_len_le hn
      rw [List.length_append] at h1; omega
    have HL := Lib.hid hl
    clear hl
    by_cases hlt : 128 ≤ c
    · go_wp2_with (at_builtin; refine wpList_append_own _ rfl _ _ 51 rfl w.heap.size 5 i0 (.int .u8 0) 1 1 Try.uBytes hi hz0 hz1 hz2 rfl (by decide) _ _ _ rfl (hown.alloc _) ⟨wr.heap.size, 0, none⟩ 1 1 [.int .u8 ((c : Int) % 128 + 128)] rfl rfl ?c1 ?c2 ?c3 ?c4 ?c5 ?_)
      case c1 =>
        intro j u hj
        match j, hj with
        | 0, hj => simp at hj; subst hj; simp [Addr.add]
      case c2 => intro u hu; simp at hu; subst hu; rfl
      case c3 => unfold maxLen; omega
      case c4 => omega
      case c5 => have := hnx.size; simp; omega
      · intro v' w1 hown' hgrow _
        have hb1 : Below w.heap.size w w1 := (hnx.alloc hnx.size _).grown hgrow (by have := hnx.size; simp; omega) (by
          intro g hg
          rcases hown.2 with ⟨h0, _⟩ | ⟨g', cap, cur, h0, hg', _⟩
          · rw [h0] at hg; simp [Value.ownBlock] at hg
          · rw [h0] at hg; simp [Value.ownBlock] at hg; omega)
        have e1 : u8s l ++ [.int .u8 ((c : Int) % 128 + 128)] = u8s (l ++ [UInt8.ofNat (c % 128 + 128)]) := by
          rw [u8s_append]; simp only [u8s, List.map_cons, List.map_nil]; rw [Vr.u8_small (by omega)]; rfl
        rw [e1] at hown'
        have HO := Lib.hid hown'
        clear hown' hgrow hown e1 hnx
        go_wp2_with fail
        go_roundw
        case rel => exact ⟨l.length + 1, c / 128, l ++ [UInt8.ofNat (c % 128 + 128)], by simp, by rw [HL.out, Vr.put_ge (by omega)]; simp, by omega, by go_num, HO.out, hb1⟩
        case measure => simp [intOf]; omega
    · go_wp2_with (at_builtin; refine wpList_append_own _ rfl _ _ 51 rfl w.heap.size 5 i0 (.int .u8 0) 1 1 Try.uBytes hi hz0 hz1 hz2 rfl (by decide) _ _ _ rfl (hown.alloc _) ⟨wr.heap.size, 0, none⟩ 1 1 [.int .u8 (c : Int)] rfl rfl ?d1 ?d2 ?d3 ?d4 ?d5 ?_)
      case d1 =>
        intro j u hj
        match j, hj with
        | 0, hj => simp at hj; subst hj; simp [Addr.add]
      case d2 => intro u hu; simp at hu; subst hu; rfl
      case d3 => unfold maxLen; omega
      case d4 => omega
      case d5 => have := hnx.size; simp; omega
      · intro v' w1 hown' hgrow _
        have hb1 : Below w.heap.size w w1 := (hnx.alloc hnx.size _).grown hgrow (by have := hnx.size; simp; omega) (by
          intro g hg
          rcases hown.2 with ⟨h0, _⟩ | ⟨g', cap, cur, h0, hg', _⟩
          · rw [h0] at hg; simp [Value.ownBlock] at hg
          · rw [h0] at hg; simp [Value.ownBlock] at hg; omega)
        have e1 : u8s l ++ [.int .u8 (c : Int)] = u8s (Vr.put n) := by
          rw [HL.out, Vr.put_lt (by omega), u8s_append]; simp only [u8s, List.map_cons, List.map_nil]; rw [Vr.u8_small (by omega)]
        rw [e1] at hown'
        have hr := own_string (P := Try.prog) 51 9 hown' (by omega) Try.uBytes Try.underlying5 Try.underlying9
        clear hown' hgrow hown e1 hnx
        go_wp2_with fail
        go_ret
        exact ⟨rfl, hb1⟩
theorem rtext_any (s : ByteArray) (w : World) (hs : s.size ≤ 140737488351232) :
    Calls Try.prog 9 #[.string s] w fun x w' => x = .returned (.string (⟨(Vr.put s.size).toArray⟩ ++ s)) ∧ Below w.heap.size w w' := by
  have hp := Vr.put_len_le (n := s.size) (by omega)
  go_enter Try.func9, Try.ntmps9
  go_wp2_with fail
  refine (rput_any s.size _ (by omega)).mono ?_
  rintro e w1 ⟨rfl, hw1⟩
  have zw1 := hw1.size
  try simp at zw1
  go_wp2_with fail
  go_ret
  exact ⟨rfl, (by repeat' (first | exact Below.refl _ _ | (refine Below.drew ?_) | (refine Below.alloc ?_ (by first | omega | (simp <;> omega)) _) | (refine Below.setCell ?_ (by first | omega | (simp <;> omega)) _) | (refine Below.trans ?_ (Below.mono (by assumption) (by first | omega | (simp <;> omega))))))⟩
end Go.Proofs.Ytahckijanjbagaa
