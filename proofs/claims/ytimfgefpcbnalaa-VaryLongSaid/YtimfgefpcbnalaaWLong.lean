/- VaryLong. -/
import Derived.Test.YtimfgefpcbnalaaWTexts
import Derived.ArgAppend
import Derived.Test.YtimfgefpcbnalaaPut
import Derived.LoopN
set_option linter.unusedVariables false
namespace Go.Proofs.Ytimfgefpcbnalaa
open Go.RowKit

/- '[]byte(s)', its spare cells too -/
theorem bytes_spec2 {P : Program} (w : World) (src dst e : TypeId) (s : ByteArray) (hs : P.underlying src = some .string) (hd : P.underlying dst = some (.slice e)) (he : P.underlying e = some (.int .u8)) :
    ∃ w1 cap, (convert src dst (.string s)).run P w = .ok (.slice (some ⟨w.heap.size, 0, none⟩) s.size cap) w1 ∧ s.size ≤ cap ∧ (s.size ≤ maxLen → cap ≤ maxLen) ∧ w1.heap.size = w.heap.size + 1 ∧
      Below w.heap.size w w1 ∧ Bts0 w1 w.heap.size (s.data.toList ++ List.replicate (cap - s.size) 0) := by
  have hge := grownCap_ge w s.size 0 e
  refine ⟨_, _, run_bytes_of_string w src dst e s hs hd he, hge, (grownCap_le_maxLen w s.size 0 e), by simp, (Below.refl _ _).drew.alloc (by simp) _, ?_, ?_⟩
  · intro j hj
    rw [show (0 : Nat) + j = j from by omega]
    have := World.cell?_alloc_mark w.drew (bytesRow s (grownCap w s.size 0 e)) e ((bytesRow s (grownCap w s.size 0 e)).size, (bytesRow s (grownCap w s.size 0 e)).size + 1) j
    simp only [World.size_drew] at this
    rw [this]
    unfold bytesRow
    rw [← Array.getElem?_toList]
    have hl : s.data.toList.length = s.size := by rw [Array.length_toList]; rfl
    simp only [Array.toList_append, Array.toList_map, Array.toList_replicate]
    by_cases hj2 : j < s.size
    · rw [List.getElem?_append_left (by rw [List.length_map]; omega), List.getElem?_map, List.getElem?_eq_getElem (by omega)]
      simp only [Option.map_some]
      rw [List.getElem_append_left (by omega)]
    · rw [List.getElem?_append_right (by rw [List.length_map]; omega)]
      rw [List.getElem_append_right (by omega)]
      simp at hj
      simp [List.getElem?_replicate]
      omega
  · intro j hj
    rw [show (0 : Nat) + j = j from by omega]
    have := World.frozen?_alloc_mark w.drew (bytesRow s (grownCap w s.size 0 e)) e ((bytesRow s (grownCap w s.size 0 e)).size) ((bytesRow s (grownCap w s.size 0 e)).size + 1) j
    simp only [World.size_drew] at this
    rw [this]
    have hz : (bytesRow s (grownCap w s.size 0 e)).size = grownCap w s.size 0 e := by
      unfold bytesRow; simp; show s.data.size + (_ - s.size) = _; have : s.data.size = s.size := rfl; omega
    have hl : s.data.toList.length = s.size := by rw [Array.length_toList]; rfl
    rw [hz]
    simp only [List.length_append, List.length_replicate, hl] at hj
    simp; omega
theorem long_start (m : Nat) (w : World) (P : ByteArray) (hP : ⟨(Vr.put m).toArray⟩ = P) (hm : m < 72057594037927936) : P.size = (Vr.put m).length ∧ 1 ≤ P.size ∧ P.size ≤ 9 := by
  have h1 : P.size = (Vr.put m).length := by rw [← hP, put_size]
  have h2 := Vr.put_pos m
  refine ⟨h1, by omega, ?_⟩
  rw [h1]
  by_cases hl : 1 < (Vr.put m).length
  · have := (Vr.put_len m).2 hl
    by_cases h9 : (Vr.put m).length ≤ 9
    · exact h9
    · have := Nat.pow_le_pow_right (show 0 < 128 by omega) (show 9 ≤ (Vr.put m).length - 1 by omega)
      rw [Vr.pow9] at this
      omega
  · omega
/- the row of bytes, the last one made one that goes on -/
theorem long_eight {m : Nat} {P : ByteArray} (hP : ⟨(Vr.put m).toArray⟩ = P) (hm : m < 72057594037927936) : P.size ≤ 8 := by
  have h1 : P.size = (Vr.put m).length := by rw [← hP, put_size]
  rw [h1]
  by_cases hl : 1 < (Vr.put m).length
  · have := (Vr.put_len m).2 hl
    by_cases h9 : (Vr.put m).length ≤ 8
    · exact h9
    · have := Nat.pow_le_pow_right (show 0 < 128 by omega) (show 8 ≤ (Vr.put m).length - 1 by omega)
      have e8 : (128 : Nat) ^ 8 = 72057594037927936 := rfl
      omega
  · omega
theorem bts0_below {w w' : World} {g : Nat} {l : List UInt8} (h : Bts0 w g l) (hb : Below w.heap.size w w') (hg : g < w.heap.size) : Bts0 w' g l :=
  ⟨fun j hj => (hb.cell (p := ⟨g, 0 + j, none⟩) hg).trans (h.1 j hj), fun j hj => (hb.frozen (p := ⟨g, 0 + j, none⟩) hg).trans (h.2 j hj)⟩
theorem long_row {w : World} {g cap m M : Nat} {P : ByteArray} (hP : ⟨(Vr.put m).toArray⟩ = P) (hM : P.size = M + 1) (hB : Bts0 w g (P.data.toList ++ List.replicate (cap - P.size) 0)) :
    ∃ c : Nat, c < 128 ∧ w.cell? ⟨g, M, none⟩ = some (.int .u8 (c : Int)) ∧ w.frozen? ⟨g, M, none⟩ = false ∧ bits .or .u8 (c : Int) 128 = (c : Int) + 128 ∧
      Bts0 (w.setCell ⟨g, M, none⟩ (.int .u8 ((c : Int) + 128))) g (Vr.wr m P.size ++ List.replicate (cap - P.size) 0) := by
  have hl : P.data.toList = Vr.put m := by rw [← hP]
  have hs : (Vr.put m).length = M + 1 := by rw [← hl, Array.length_toList]; exact hM
  have hw := Vr.wr_put m
  rw [hs, show M + 1 - 1 = M from rfl] at hw
  have hc : m / 128 ^ M % 128 < 128 := Nat.mod_lt _ (by omega)
  refine ⟨m / 128 ^ M % 128, hc, ?_, ?_, ?_, ?_⟩
  · have := hB.get M (by rw [hl, hw]; simp [Vr.wr_len]) (x := UInt8.ofNat (m / 128 ^ M % 128)) (by simp [hl, hw, Vr.wr_len])
    rw [Vr.u8_small (by omega)] at this; exact this
  · exact hB.free M (by rw [hl, hw]; simp [Vr.wr_len])
  · have := Vr.or_128 (m / 128 ^ M % 128) (by omega)
    rw [this, Nat.mod_eq_of_lt hc]; omega
  · have := hB.set M (by rw [hl, hw]; simp [Vr.wr_len]) (UInt8.ofNat (m / 128 ^ M % 128 + 128))
    rw [Vr.u8_small (by omega), hl, hw, List.append_assoc, List.set_append_right _ _ (by simp [Vr.wr_len])] at this
    simp only [Vr.wr_len, Nat.sub_self, List.cons_append, List.nil_append, List.set_cons_zero] at this
    rw [hM, Vr.wr_succ, List.append_assoc]
    rw [hM] at this
    have e : ((m / 128 ^ M % 128 + 128 : Nat) : Int) = ((m / 128 ^ M % 128 : Nat) : Int) + 128 := by omega
    rw [e] at this
    exact this
theorem one_string (w : World) (g : Nat) (x : UInt8) (h : w.cell? ⟨g, 0, none⟩ = some (.int .u8 (x.toNat : Int))) :
    (convert 53 9 (.slice (some ⟨g, 0, none⟩) 1 1)).run Try.prog w = .ok (.string ⟨#[x]⟩) w :=
  string_spec w 53 9 5 g 1 1 [x] Try.uBytes Try.underlying5 Try.underlying9 (by
    intro j hj
    obtain rfl : j = 0 := by simpa using hj
    exact h) rfl
set_option maxHeartbeats 1600000 in
theorem long_odd (n m : Nat) (more : Int) (P : ByteArray) (w : World) (hn : n < 18446744073709551616) (hm : (n : Int) / 256 = (m : Int)) (hP : ⟨(Vr.put m).toArray⟩ = P) (m0 : 0 ≤ more) (m1 : more ≤ 255) (hodd : more % 2 = 1) :
    Calls Try.prog 6 #[.int .u64 (n : Nat), .int .u8 more] w fun e w' => e = .returned (.bool true) ∧ Below w.heap.size w w' := by
  have hmb : m < 72057594037927936 := by omega
  obtain ⟨p1, p2, p3⟩ := long_start m w P hP hmb
  obtain ⟨M, hM⟩ : ∃ M, P.size = M + 1 := ⟨P.size - 1, by omega⟩
  have hi : (P.size : Int) - 1 = (M : Int) := by omega
  obtain ⟨x, hx⟩ : ∃ x : UInt8, x.toNat = 2 + (more % 254).toNat := ⟨UInt8.ofNat (2 + (more % 254).toNat), Vr.u8_small (by omega)⟩
  have hx2 : 2 + more % 254 = (x.toNat : Int) := by omega
  have hxl : x.toNat ≤ 255 := by omega
  have hov := Vr.over_next x (by omega)
  have hlo := Vr.long_next (c := Vr.wr m P.size ++ [128]) (r := [120]) (fun b hb => by
    rw [List.mem_append] at hb
    rcases hb with hb | hb
    · exact Vr.wr_ge m P.size b hb
    · simp at hb; subst hb; decide) (by rw [List.length_append, Vr.wr_len]; omega) (by rw [List.length_append, Vr.wr_len]; have := long_eight hP hmb; simp; omega)
  obtain ⟨i0, hi0, hz0, hz1, hz2⟩ := info_parts Try.infoU8
  have HO := Lib.hid hov
  have HL := Lib.hid hlo
  have HP := Lib.hid hP
  have HP1 := Lib.hid p1
  have HM := Lib.hid hM
  have HX := Lib.hid hx
  have HB := Lib.hid hmb
  have X2 := Lib.hid hx2
  clear hP p1 hM hx hmb hov hlo hx2
  go_enter Try.func6, Try.ntmps6
  go_wp2_with fail
  refine (vary_examples _).mono ?_
  rintro e w1 ⟨rfl, hw1⟩
  have zw1 := hw1.size
  try simp at zw1
  go_wp2_with fail
  refine (put_at m P _ (by omega) HP.out).mono ?_
  rintro e w2 ⟨rfl, hw2⟩
  have zw2 := hw2.size
  try simp at zw2
  go_wp2_with fail
  obtain ⟨w3, cap, hr, q1, q2, q3, q4, q5⟩ := bytes_spec2 (P := Try.prog) w2 9 53 5 P Try.underlying9 Try.uBytes Try.underlying5
  rw [hr]
  obtain ⟨c, c1, c2, c3, c4, c5⟩ := long_row HP.out HM.out q5
  have C5 := Lib.hid c5
  have hb3 : Below w.heap.size w w3 := (by repeat' (first | exact Below.refl _ _ | (refine Below.drew ?_) | (refine Below.alloc ?_ (by first | omega | (simp <;> omega)) _) | (refine Below.setCell ?_ (by first | omega | (simp <;> omega)) _) | (refine Below.trans ?_ (Below.mono (by assumption) (by first | omega | (simp <;> omega))))))
  have hz3 : w2.heap.size < w3.heap.size := by omega
  clear hr q5 q4 q3 hw1 hw2 c5
  go_wp2_with fail
  have hb4 := hb3.setCell (p := ⟨w2.heap.size, M, none⟩) (by show w.heap.size ≤ w2.heap.size; omega) (.int .u8 ((c : Int) + 128))
  have hz4 : w2.heap.size < (w3.setCell ⟨w2.heap.size, M, none⟩ (.int .u8 ((c : Int) + 128))).heap.size := by simp; omega
  generalize w3.setCell ⟨w2.heap.size, M, none⟩ (.int .u8 ((c : Int) + 128)) = w4 at *
  obtain ⟨Q, hQ⟩ : ∃ Q : ByteArray, ⟨(Vr.wr m P.size ++ [128]).toArray⟩ = Q := ⟨_, rfl⟩
  have hQs : Q.size ≤ 10 := by rw [← hQ]; show (Vr.str (Vr.wr m P.size ++ [128])).size ≤ 10; rw [Vr.str_size, List.length_append, Vr.wr_len]; simp; omega
  have HL2 : Hid (Vr.next (Q ++ (⟨#[0, 120]⟩ : ByteArray)) 0 = (0, ⟨#[]⟩, 5)) := Lib.hid (by rw [← hQ]; exact HL.out)
  have HS2 : Hid ((Q ++ (⟨#[0, 120]⟩ : ByteArray)).size ≤ maxLen) := Lib.hid (by rw [ByteArray.size_append]; show Q.size + 2 ≤ _; unfold maxLen; omega)
  have HQ := Lib.hid hQ
  have HI := Lib.hid hi
  clear hQ c2 c3 c4 hb3 hi
  refine wp_loop_rounds 2 ?_
  rw [rounds_succ]
  go_wp2_with (at_builtin; refine wpList_append_arg _ rfl _ _ 53 rfl 5 i0 (.int .u8 0) 1 1 Try.uBytes hi0 hz0 hz1 hz2 rfl (by decide) w2.heap.size 0 P.size cap (u8s (Vr.wr m P.size)) rfl ?e1 ?e2 ⟨w4.heap.size, 0, none⟩ 1 1 [.int .u8 128] rfl rfl ?e3 ?e4 ?e5 ?e6 ?e7 ?e8 ?e9)
  case e1 => rw [u8s_length, Vr.wr_len, Nat.mul_one]
  case e2 =>
    intro j u hj
    have hjl : j < P.size := by
      have := (List.getElem?_eq_some_iff.1 hj).1
      rwa [u8s_length, Vr.wr_len] at this
    have h2 := C5.out.1 j (by rw [List.length_append, Vr.wr_len]; omega)
    rw [World.cell?_alloc_past _ _ _ (by show w2.heap.size < _; omega), h2, List.getElem_append_left (by rw [Vr.wr_len]; omega)]
    rw [← hj]; simp [u8s, Vr.wr_len, hjl]
  case e3 =>
    intro j u hj
    match j, hj with
    | 0, hj => simp at hj; subst hj; simp [Addr.add]
  case e4 => intro u hu; simp at hu; subst hu; rfl
  case e5 =>
    intro hr j hj
    simp at hj
    subst hj
    have hbA : ∀ o1 : Obj, Below w4.heap.size w4 (w4.alloc o1) := fun o1 => (Below.refl _ _).alloc (Nat.le_refl _) _
    have hB1 := bts0_below C5.out (hbA (.cells #[.int .u8 128] 5)) hz4
    have h2 := hB1.1 P.size (by rw [List.length_append, Vr.wr_len, List.length_replicate]; omega)
    have h3 := hB1.2 P.size (by rw [List.length_append, Vr.wr_len, List.length_replicate]; omega)
    rw [show 0 + P.size * 1 + 0 = 0 + P.size from by omega]
    exact ⟨by rw [h2]; rfl, h3⟩
  case e6 => unfold maxLen; omega
  case e7 => omega
  case e8 =>
    intro hr
    have hbA : ∀ o1 : Obj, Below w4.heap.size w4 (w4.alloc o1) := fun o1 => (Below.refl _ _).alloc (Nat.le_refl _) _
    have hB1 := (bts0_below C5.out (hbA (.cells #[.int .u8 128] 5)) hz4).set P.size (by rw [List.length_append, Vr.wr_len, List.length_replicate]; omega) 128
    have hb5 : ∀ o1 : Obj, ∀ v : Value, Below w.heap.size w (((w4.alloc o1)).setCell ⟨w2.heap.size, P.size, none⟩ v) := fun o1 v => (hb4.alloc hb4.size _).setCell (by show w.heap.size ≤ w2.heap.size; omega) _
    have hw5 : ∀ o1 : Obj, (w4.alloc o1).setCells w2.heap.size P.size [.int .u8 128] = (w4.alloc o1).setCell ⟨w2.heap.size, P.size, none⟩ (.int .u8 128) := by
      intro o1; rfl
    rw [hw5]
    have hb6 := hb5 (.cells #[.int .u8 128] 5) (.int .u8 128)
    have hz6 : ∀ o1 : Obj, w2.heap.size < ((w4.alloc o1).setCell ⟨w2.heap.size, P.size, none⟩ (.int .u8 128)).heap.size := by intro o1; simp; omega
    have sr := string_at (P := Try.prog) ((w4.alloc (.cells #[.int .u8 128] 5)).setCell ⟨w2.heap.size, P.size, none⟩ (.int .u8 128)) 53 9 5 w2.heap.size 0 (P.size + 1) cap (Vr.wr m P.size ++ [128]) Try.uBytes Try.underlying5 Try.underlying9 (by
      have := hB1.1.take (P.size + 1)
      rwa [List.set_append_right _ _ (by rw [Vr.wr_len]; omega), Vr.wr_len, Nat.sub_self, show List.replicate (cap - P.size) (0 : UInt8) = 0 :: List.replicate (cap - (P.size + 1)) 0 from by rw [show cap - P.size = (cap - (P.size + 1)) + 1 from by omega, List.replicate_succ], List.set_cons_zero,
        List.take_append, Vr.wr_len, List.take_of_length_le (by rw [Vr.wr_len]; omega), show P.size + 1 - P.size = 1 from by omega, List.take_succ_cons, List.take_zero] at this) (by rw [List.length_append, Vr.wr_len]; rfl)
    rw [HQ.out] at sr
    have hs6 := hb6.size
    have hz7 := hz6 (.cells #[.int .u8 128] 5)
    clear hB1 hbA hb5 hw5 hz6 hb4 hz4
    generalize (w4.alloc (.cells #[.int .u8 128] 5)).setCell ⟨w2.heap.size, P.size, none⟩ (.int .u8 128) = w4b at *
    go_wp2_with fail
    rw [rounds_succ]
    go_wp2_with fail
    refine (next_at (Q ++ (⟨#[0, 120]⟩ : ByteArray)) ⟨#[]⟩ 0 5 0 _ HS2.out HL2.out).mono ?_
    rintro e w5 ⟨rfl, hw5⟩
    have zw5 := hw5.size
    try simp at zw5
    go_wp2_with fail
    have ho : ∀ o1 : Obj, ((w5.alloc o1).alloc (.cells #[.int .u8 (x.toNat : Int)] 5)).cell? ⟨w5.heap.size + 1, 0, none⟩ = some (.int .u8 (x.toNat : Int)) := by intro o1; simp
    rw [X2.out, one_string _ _ x (ho _)]
    clear ho
    have HO2 : Hid (Vr.next ((⟨#[255, 255, 255, 255, 255, 255, 255, 255, 255]⟩ : ByteArray) ++ (⟨#[x]⟩ : ByteArray) ++ (⟨#[120]⟩ : ByteArray)) 0 = (0, ⟨#[]⟩, 3)) := Lib.hid HO.out
    have HS3 : Hid (((⟨#[255, 255, 255, 255, 255, 255, 255, 255, 255]⟩ : ByteArray) ++ (⟨#[x]⟩ : ByteArray) ++ (⟨#[120]⟩ : ByteArray)).size ≤ maxLen) := Lib.hid (by rw [ByteArray.size_append, ByteArray.size_append]; show 9 + 1 + 1 ≤ _; decide)
    go_wp2_with fail
    refine (next_at _ ⟨#[]⟩ 0 3 0 _ HS3.out HO2.out).mono ?_
    rintro e w6 ⟨rfl, hw6⟩
    have zw6 := hw6.size
    try simp at zw6
    have zw6_0 : w5.heap.size < w6.heap.size := by omega
    have cw6_0 := fun o => hw6.cell (p := ⟨w5.heap.size, o, none⟩) (by first | omega | (simp <;> omega))
    have fw6_0 := fun o => hw6.frozen (p := ⟨w5.heap.size, o, none⟩) (by first | omega | (simp <;> omega))
    go_wp2_with fail
    go_ret
    exact ⟨rfl, (by repeat' (first | exact Below.refl _ _ | (refine Below.drew ?_) | (refine Below.alloc ?_ (by first | omega | (simp <;> omega)) _) | (refine Below.setCell ?_ (by first | omega | (simp <;> omega)) _) | (refine Below.trans ?_ (Below.mono (by assumption) (by first | omega | (simp <;> omega))))))⟩
  case e9 =>
    intro hgrow0 v' w4b hown hgrow
    have e1 : u8s (Vr.wr m P.size) ++ [.int .u8 128] = u8s (Vr.wr m P.size ++ [128]) := by rw [u8s_append]; rfl
    rw [e1] at hown
    have sr := own_string (P := Try.prog) 53 9 hown (by omega) Try.uBytes Try.underlying5 Try.underlying9
    rw [HQ.out] at sr
    have hb6 : Below w.heap.size w w4b := (hb4.alloc hb4.size _).grown hgrow (by have := hb4.size; simp; omega) (fun k hk => by cases hk)
    have hs6 := hb6.size
    clear hown hgrow e1 hb4 hz4
    go_wp2_with fail
    rw [rounds_succ]
    go_wp2_with fail
    refine (next_at (Q ++ (⟨#[0, 120]⟩ : ByteArray)) ⟨#[]⟩ 0 5 0 _ HS2.out HL2.out).mono ?_
    rintro e w5 ⟨rfl, hw5⟩
    have zw5 := hw5.size
    try simp at zw5
    go_wp2_with fail
    have ho : ∀ o1 : Obj, ((w5.alloc o1).alloc (.cells #[.int .u8 (x.toNat : Int)] 5)).cell? ⟨w5.heap.size + 1, 0, none⟩ = some (.int .u8 (x.toNat : Int)) := by intro o1; simp
    rw [X2.out, one_string _ _ x (ho _)]
    clear ho
    have HO2 : Hid (Vr.next ((⟨#[255, 255, 255, 255, 255, 255, 255, 255, 255]⟩ : ByteArray) ++ (⟨#[x]⟩ : ByteArray) ++ (⟨#[120]⟩ : ByteArray)) 0 = (0, ⟨#[]⟩, 3)) := Lib.hid HO.out
    have HS3 : Hid (((⟨#[255, 255, 255, 255, 255, 255, 255, 255, 255]⟩ : ByteArray) ++ (⟨#[x]⟩ : ByteArray) ++ (⟨#[120]⟩ : ByteArray)).size ≤ maxLen) := Lib.hid (by rw [ByteArray.size_append, ByteArray.size_append]; show 9 + 1 + 1 ≤ _; decide)
    go_wp2_with fail
    refine (next_at _ ⟨#[]⟩ 0 3 0 _ HS3.out HO2.out).mono ?_
    rintro e w6 ⟨rfl, hw6⟩
    have zw6 := hw6.size
    try simp at zw6
    have zw6_0 : w5.heap.size < w6.heap.size := by omega
    have cw6_0 := fun o => hw6.cell (p := ⟨w5.heap.size, o, none⟩) (by first | omega | (simp <;> omega))
    have fw6_0 := fun o => hw6.frozen (p := ⟨w5.heap.size, o, none⟩) (by first | omega | (simp <;> omega))
    go_wp2_with fail
    go_ret
    exact ⟨rfl, (by repeat' (first | exact Below.refl _ _ | (refine Below.drew ?_) | (refine Below.alloc ?_ (by first | omega | (simp <;> omega)) _) | (refine Below.setCell ?_ (by first | omega | (simp <;> omega)) _) | (refine Below.trans ?_ (Below.mono (by assumption) (by first | omega | (simp <;> omega))))))⟩
theorem long_even (n m : Nat) (more : Int) (P : ByteArray) (w : World) (hn : n < 18446744073709551616) (hm : (n : Int) / 256 = (m : Int)) (hP : ⟨(Vr.put m).toArray⟩ = P) (m0 : 0 ≤ more) (m1 : more ≤ 255) (hodd : more % 2 = 0) :
    Calls Try.prog 6 #[.int .u64 (n : Nat), .int .u8 more] w fun e w' => e = .returned (.bool true) ∧ Below w.heap.size w w' := by
  have hmb : m < 72057594037927936 := by omega
  obtain ⟨p1, p2, p3⟩ := long_start m w P hP hmb
  obtain ⟨M, hM⟩ : ∃ M, P.size = M + 1 := ⟨P.size - 1, by omega⟩
  have hi : (P.size : Int) - 1 = (M : Int) := by omega
  obtain ⟨x, hx⟩ : ∃ x : UInt8, x.toNat = 2 + (more % 254).toNat := ⟨UInt8.ofNat (2 + (more % 254).toNat), Vr.u8_small (by omega)⟩
  have hx2 : 2 + more % 254 = (x.toNat : Int) := by omega
  have hxl : x.toNat ≤ 255 := by omega
  have hov := Vr.over_next x (by omega)
  have hlo := Vr.long_next (r := [120]) (Vr.wr_ge m P.size) (by rw [Vr.wr_len]; omega) (by rw [Vr.wr_len]; omega)
  have HO := Lib.hid hov
  have HL := Lib.hid hlo
  have HP := Lib.hid hP
  have HP1 := Lib.hid p1
  have HM := Lib.hid hM
  have HX := Lib.hid hx
  have HB := Lib.hid hmb
  have X2 := Lib.hid hx2
  clear hP p1 hM hx hmb hov hlo hx2
  go_enter Try.func6, Try.ntmps6
  go_wp2_with fail
  refine (vary_examples _).mono ?_
  rintro e w1 ⟨rfl, hw1⟩
  have zw1 := hw1.size
  try simp at zw1
  go_wp2_with fail
  refine (put_at m P _ (by omega) HP.out).mono ?_
  rintro e w2 ⟨rfl, hw2⟩
  have zw2 := hw2.size
  try simp at zw2
  go_wp2_with fail
  obtain ⟨w3, cap, hr, q1, q2, q3, q4, q5⟩ := bytes_spec2 (P := Try.prog) w2 9 53 5 P Try.underlying9 Try.uBytes Try.underlying5
  rw [hr]
  obtain ⟨c, c1, c2, c3, c4, c5⟩ := long_row HP.out HM.out q5
  have C5 := Lib.hid c5
  have hb3 : Below w.heap.size w w3 := (by repeat' (first | exact Below.refl _ _ | (refine Below.drew ?_) | (refine Below.alloc ?_ (by first | omega | (simp <;> omega)) _) | (refine Below.setCell ?_ (by first | omega | (simp <;> omega)) _) | (refine Below.trans ?_ (Below.mono (by assumption) (by first | omega | (simp <;> omega))))))
  have hz3 : w2.heap.size < w3.heap.size := by omega
  clear hr q5 q4 q3 hw1 hw2 c5
  go_wp2_with fail
  have hb4 := hb3.setCell (p := ⟨w2.heap.size, M, none⟩) (by show w.heap.size ≤ w2.heap.size; omega) (.int .u8 ((c : Int) + 128))
  have hz4 : w2.heap.size < (w3.setCell ⟨w2.heap.size, M, none⟩ (.int .u8 ((c : Int) + 128))).heap.size := by simp; omega
  generalize w3.setCell ⟨w2.heap.size, M, none⟩ (.int .u8 ((c : Int) + 128)) = w4 at *
  have sr := string_at (P := Try.prog) w4 53 9 5 w2.heap.size 0 P.size cap (Vr.wr m P.size) Try.uBytes Try.underlying5 Try.underlying9 (by
    have := C5.out.1.take P.size
    rwa [List.take_append_of_le_length (by rw [Vr.wr_len]; omega), List.take_of_length_le (by rw [Vr.wr_len]; omega)] at this) (by rw [Vr.wr_len])
  obtain ⟨Q, hQ⟩ : ∃ Q : ByteArray, ⟨(Vr.wr m P.size).toArray⟩ = Q := ⟨_, rfl⟩
  have hQs : Q.size ≤ 9 := by rw [← hQ]; show (Vr.str (Vr.wr m P.size)).size ≤ 9; rw [Vr.str_size, Vr.wr_len]; omega
  have HL2 : Hid (Vr.next (Q ++ (⟨#[0, 120]⟩ : ByteArray)) 0 = (0, ⟨#[]⟩, 5)) := Lib.hid (by rw [← hQ]; exact HL.out)
  have HS2 : Hid ((Q ++ (⟨#[0, 120]⟩ : ByteArray)).size ≤ maxLen) := Lib.hid (by rw [ByteArray.size_append]; show Q.size + 2 ≤ _; unfold maxLen; omega)
  rw [hQ] at sr
  clear hQ c2 c3 c4 hb3
  refine wp_loop_rounds 1 ?_
  rw [rounds_succ]
  go_wp2_with fail
  refine (next_at (Q ++ (⟨#[0, 120]⟩ : ByteArray)) ⟨#[]⟩ 0 5 0 _ HS2.out HL2.out).mono ?_
  rintro e w5 ⟨rfl, hw5⟩
  have zw5 := hw5.size
  try simp at zw5
  go_wp2_with fail
  have ho : ∀ o1 : Obj, ((w5.alloc o1).alloc (.cells #[.int .u8 (x.toNat : Int)] 5)).cell? ⟨w5.heap.size + 1, 0, none⟩ = some (.int .u8 (x.toNat : Int)) := by intro o1; simp
  rw [X2.out, one_string _ _ x (ho _)]
  clear ho
  have HO2 : Hid (Vr.next ((⟨#[255, 255, 255, 255, 255, 255, 255, 255, 255]⟩ : ByteArray) ++ (⟨#[x]⟩ : ByteArray) ++ (⟨#[120]⟩ : ByteArray)) 0 = (0, ⟨#[]⟩, 3)) := Lib.hid HO.out
  have HS3 : Hid (((⟨#[255, 255, 255, 255, 255, 255, 255, 255, 255]⟩ : ByteArray) ++ (⟨#[x]⟩ : ByteArray) ++ (⟨#[120]⟩ : ByteArray)).size ≤ maxLen) := Lib.hid (by rw [ByteArray.size_append, ByteArray.size_append]; show 9 + 1 + 1 ≤ _; decide)
  go_wp2_with fail
  refine (next_at _ ⟨#[]⟩ 0 3 0 _ HS3.out HO2.out).mono ?_
  rintro e w6 ⟨rfl, hw6⟩
  have zw6 := hw6.size
  try simp at zw6
  have zw6_0 : w5.heap.size < w6.heap.size := by omega
  have cw6_0 := fun o => hw6.cell (p := ⟨w5.heap.size, o, none⟩) (by first | omega | (simp <;> omega))
  have fw6_0 := fun o => hw6.frozen (p := ⟨w5.heap.size, o, none⟩) (by first | omega | (simp <;> omega))
  go_wp2_with fail
  go_ret
  exact ⟨rfl, (by repeat' (first | exact Below.refl _ _ | (refine Below.drew ?_) | (refine Below.alloc ?_ (by first | omega | (simp <;> omega)) _) | (refine Below.setCell ?_ (by first | omega | (simp <;> omega)) _) | (refine Below.trans ?_ (Below.mono (by assumption) (by first | omega | (simp <;> omega))))))⟩
theorem law_VaryLong (n more : Int) (w : World) (n0 : 0 ≤ n) (n1 : n ≤ 18446744073709551615) (m0 : 0 ≤ more) (m1 : more ≤ 255) :
    Calls Try.prog 6 #[.int .u64 n, .int .u8 more] w fun e w' => e = .returned (.bool true) ∧ Below w.heap.size w w' := by
  obtain ⟨n, rfl⟩ := Int.eq_ofNat_of_zero_le n0
  have hm : (n : Int) / 256 = ((n / 256 : Nat) : Int) := by omega
  rcases Int.emod_two_eq more with h | h
  · exact long_even n (n / 256) more _ w (by omega) hm rfl m0 m1 h
  · exact long_odd n (n / 256) more _ w (by omega) hm rfl m0 m1 h
end Go.Proofs.Ytimfgefpcbnalaa
