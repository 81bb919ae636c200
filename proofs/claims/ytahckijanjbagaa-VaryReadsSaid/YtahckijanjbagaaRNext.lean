/- The document's own reading of a number. -/
import Derived.Test.YtahckijanjbagaaPad
set_option linter.unusedVariables false
namespace Go.Proofs.Ytahckijanjbagaa
open Go.RowKit

set_option maxRecDepth 20000 in
set_option maxHeartbeats 1600000 in
theorem rnext_any (s : ByteArray) (w : World) (hs : s.size ≤ maxLen) :
    Calls Try.prog 11 #[.agg #[.string s, .int .i64 0]] w fun x w' => x = .returned (.tuple #[.int .u64 (Vr.nV s : Nat), .agg #[.string (Vr.nR s), .int .i64 (Vr.nE s)]]) ∧ Below w.heap.size w w' := by
  unfold maxLen at hs
  go_enter Try.func11, Try.ntmps11
  go_wp2_with fail
  go_loop [4, 5] (fun t i => ∃ k acc : Nat, k ≤ s.size ∧ Vr.At s.data.toList k acc ∧ i = .int .i64 k ∧ t = .int .u64 acc) (fun _ i => s.size - (intOf i).toNat)
  case atStart => exact ⟨0, 0, Nat.zero_le _, Vr.At.start _, rfl, rfl⟩
  case round =>
    obtain ⟨k, acc, hk, hn, rfl, rfl⟩ := hrel
    have hk9 := hn.2.1
    have HN := Lib.hid hn
    by_cases hlt : (k : Int) < (s.size : Int)
    · have hlt2 : k < s.size := by omega
      have hlt3 : k < s.data.toList.length := by simpa using hlt2
      have c1 := u8_lt s[k]
      obtain ⟨v, hv⟩ : ∃ v : Nat, v = s[k].toNat % 128 := ⟨_, rfl⟩
      have v1 : v < 128 := by omega
      have HS := Lib.hid (u8_at s k hlt2)
      rcases (show (9 ≤ k ∧ 1 < s[k].toNat) ∨ (1 ≤ k ∧ s[k].toNat ≤ 0) ∨ (k ≤ 8 ∧ 128 ≤ s[k].toNat) ∨ (s[k].toNat < 128 ∧ (k ≤ 0 ∨ 0 < s[k].toNat) ∧ (k ≤ 8 ∨ s[k].toNat ≤ 1)) by omega) with ⟨g1, g2⟩ | ⟨g1, g2⟩ | ⟨g1, g2⟩ | ⟨g1, g2, g3⟩
      · have E := Lib.hid (Vr.n_bad (hn.over hlt3 g1 g2) (by decide))
        clear hn HN hv
        go_wp2_with fail
        refine (rfail_ok _ _ _).mono ?_
        rintro e w1 ⟨rfl, hw1⟩
        have zw1 := hw1.size
        try simp at zw1
        have zw1_0 : w.heap.size < w1.heap.size := by omega
        have cw1_0 := fun o => hw1.cell (p := ⟨w.heap.size, o, none⟩) (by first | omega | (simp <;> omega))
        have fw1_0 := fun o => hw1.frozen (p := ⟨w.heap.size, o, none⟩) (by first | omega | (simp <;> omega))
        have zw1_1 : w.heap.size + 1 < w1.heap.size := by omega
        have cw1_1 := fun o => hw1.cell (p := ⟨w.heap.size + 1, o, none⟩) (by first | omega | (simp <;> omega))
        have fw1_1 := fun o => hw1.frozen (p := ⟨w.heap.size + 1, o, none⟩) (by first | omega | (simp <;> omega))
        go_wp2_with fail
        exact bodyPost_ret (v := .tuple #[.int .u64 0, .agg #[.string ⟨#[]⟩, .int .i64 3]]) (by simp [results, Try.results11, go_sem, *]) rfl ⟨nret E.out, (by repeat' (first | exact Below.refl _ _ | (refine Below.drew ?_) | (refine Below.alloc ?_ (by first | omega | (simp <;> omega)) _) | (refine Below.setCell ?_ (by first | omega | (simp <;> omega)) _) | (refine Below.trans ?_ (Below.mono (by assumption) (by first | omega | (simp <;> omega))))))⟩
      · have E := Lib.hid (Vr.n_bad (hn.long hlt3 g1 (show s[k].toNat = 0 by omega)) (by decide))
        have hO := Vr.or_at' acc s[k].toNat v k hv hn.2.2.1 (Vr.mul_fits' hk9 (by omega)) (Vr.acc_fits' hn.2.2.1 hk9 (by omega))
        clear hn HN hv
        generalize acc + v * 128 ^ k = T at hO
        go_wp2_with fail
        all_goals
          refine (rfail_ok _ _ _).mono ?_
          rintro e w1 ⟨rfl, hw1⟩
          have zw1 := hw1.size
          try simp at zw1
          have zw1_0 : w.heap.size < w1.heap.size := by omega
          have cw1_0 := fun o => hw1.cell (p := ⟨w.heap.size, o, none⟩) (by first | omega | (simp <;> omega))
          have fw1_0 := fun o => hw1.frozen (p := ⟨w.heap.size, o, none⟩) (by first | omega | (simp <;> omega))
          have zw1_1 : w.heap.size + 1 < w1.heap.size := by omega
          have cw1_1 := fun o => hw1.cell (p := ⟨w.heap.size + 1, o, none⟩) (by first | omega | (simp <;> omega))
          have fw1_1 := fun o => hw1.frozen (p := ⟨w.heap.size + 1, o, none⟩) (by first | omega | (simp <;> omega))
          go_wp2_with fail
          exact bodyPost_ret (v := .tuple #[.int .u64 0, .agg #[.string ⟨#[]⟩, .int .i64 5]]) (by simp [results, Try.results11, go_sem, *]) rfl ⟨nret E.out, (by repeat' (first | exact Below.refl _ _ | (refine Below.drew ?_) | (refine Below.alloc ?_ (by first | omega | (simp <;> omega)) _) | (refine Below.setCell ?_ (by first | omega | (simp <;> omega)) _) | (refine Below.trans ?_ (Below.mono (by assumption) (by first | omega | (simp <;> omega))))))⟩
      · have hm := hn.more hlt3 g1 g2
        rw [u8_at s k hlt2, ← hv] at hm
        have hO := Vr.or_at' acc s[k].toNat v k hv hn.2.2.1 (Vr.mul_fits g1 (by omega)) (Vr.acc_fits hn.2.2.1 g1 (by omega))
        generalize acc + v * 128 ^ k = T at hO hm
        have HM := Lib.hid hm
        clear hn HN hm hv
        go_wp2_with fail
        go_round
        case rel => exact ⟨k + 1, _, by omega, HM.out, by go_num, rfl⟩
        case measure => simp [intOf]; omega
      · have E := Vr.n_good (hn.done hlt3 g1 g2 g3)
        have hO := Vr.or_at' acc s[k].toNat v k hv hn.2.2.1 (Vr.mul_any hk9 hv g3) (Vr.acc_any hn.2.2.1 hk9 hv g3)
        rw [u8_at s k hlt2, ← hv] at E
        generalize acc + v * 128 ^ k = T at hO E
        clear hn HN hv
        have E := Lib.hid E
        rcases (show (k ≤ 0 ∧ s[k].toNat ≤ 0) ∨ 0 < s[k].toNat by omega) with ⟨g2, g4⟩ | g2
        · go_wp2_with fail
          go_region
          go_wp2_with fail
          exact bodyPost_ret (v := .tuple #[.int .u64 T, .agg #[.string (s.extract (k + 1) s.size), .int .i64 0]]) (by simp [results, Try.results11, go_sem, *]) rfl ⟨nret E.out, (by repeat' (first | exact Below.refl _ _ | (refine Below.drew ?_) | (refine Below.alloc ?_ (by first | omega | (simp <;> omega)) _) | (refine Below.setCell ?_ (by first | omega | (simp <;> omega)) _) | (refine Below.trans ?_ (Below.mono (by assumption) (by first | omega | (simp <;> omega))))))⟩
        · rcases (show k ≤ 8 ∨ k = 9 by omega) with g4 | g4
          · go_wp2_with fail
            go_region
            go_wp2_with fail
            exact bodyPost_ret (v := .tuple #[.int .u64 T, .agg #[.string (s.extract (k + 1) s.size), .int .i64 0]]) (by simp [results, Try.results11, go_sem, *]) rfl ⟨nret E.out, (by repeat' (first | exact Below.refl _ _ | (refine Below.drew ?_) | (refine Below.alloc ?_ (by first | omega | (simp <;> omega)) _) | (refine Below.setCell ?_ (by first | omega | (simp <;> omega)) _) | (refine Below.trans ?_ (Below.mono (by assumption) (by first | omega | (simp <;> omega))))))⟩
          · subst g4
            have g3 : s[9].toNat ≤ 1 := by omega
            have hO : bits .or .u64 (acc : Int) (IntKind.u64.wrap ((s[9].toNat : Int) % 128 * 9223372036854775808)) = (T : Int) := by simpa using hO
            have hO2 := hO
            rw [IntWalk.u64_in _ ⟨by omega, by omega⟩] at hO2
            go_wp2_with fail
            go_region
            go_wp2_with fail
            exact bodyPost_ret (v := .tuple #[.int .u64 T, .agg #[.string (s.extract (10) s.size), .int .i64 0]]) (by simp [results, Try.results11, go_sem, *]) rfl ⟨nret E.out, (by repeat' (first | exact Below.refl _ _ | (refine Below.drew ?_) | (refine Below.alloc ?_ (by first | omega | (simp <;> omega)) _) | (refine Below.setCell ?_ (by first | omega | (simp <;> omega)) _) | (refine Below.trans ?_ (Below.mono (by assumption) (by first | omega | (simp <;> omega))))))⟩
    · have e : (k : Int) = (s.size : Int) := by omega
      try (exfalso; omega)
      all_goals
        have E := Lib.hid (Vr.n_bad (hn.stop (by simp; omega)) (by decide))
        clear hlt hn HN
        go_wp2_with fail
        refine (rfail_ok _ _ _).mono ?_
        rintro e w1 ⟨rfl, hw1⟩
        have zw1 := hw1.size
        try simp at zw1
        have zw1_0 : w.heap.size < w1.heap.size := by omega
        have cw1_0 := fun o => hw1.cell (p := ⟨w.heap.size, o, none⟩) (by first | omega | (simp <;> omega))
        have fw1_0 := fun o => hw1.frozen (p := ⟨w.heap.size, o, none⟩) (by first | omega | (simp <;> omega))
        have zw1_1 : w.heap.size + 1 < w1.heap.size := by omega
        have cw1_1 := fun o => hw1.cell (p := ⟨w.heap.size + 1, o, none⟩) (by first | omega | (simp <;> omega))
        have fw1_1 := fun o => hw1.frozen (p := ⟨w.heap.size + 1, o, none⟩) (by first | omega | (simp <;> omega))
        go_wp2_with fail
        exact bodyPost_ret (v := .tuple #[.int .u64 0, .agg #[.string ⟨#[]⟩, .int .i64 4]]) (by simp [results, Try.results11, go_sem, *]) rfl ⟨nret E.out, (by repeat' (first | exact Below.refl _ _ | (refine Below.drew ?_) | (refine Below.alloc ?_ (by first | omega | (simp <;> omega)) _) | (refine Below.setCell ?_ (by first | omega | (simp <;> omega)) _) | (refine Below.trans ?_ (Below.mono (by assumption) (by first | omega | (simp <;> omega))))))⟩
theorem rnext_err (s : ByteArray) (e : Int) (w : World) (he : ¬ e = 0) :
    Calls Try.prog 11 #[.agg #[.string s, .int .i64 e]] w fun x w' => x = .returned (.tuple #[.int .u64 0, .agg #[.string ⟨#[]⟩, .int .i64 e]]) ∧ Below w.heap.size w w' := by
  go_enter Try.func11, Try.ntmps11
  go_wp2_with fail
  go_loop [4, 5] (fun t i => i = .int .i64 0) (fun _ i => 0)
  case atStart => rfl
  case round =>
    subst hrel
    go_wp2_with fail
    refine (rfail_err _ _ _ _ he).mono ?_
    rintro e w1 ⟨rfl, hw1⟩
    have zw1 := hw1.size
    try simp at zw1
    have zw1_0 : w.heap.size < w1.heap.size := by omega
    have cw1_0 := fun o => hw1.cell (p := ⟨w.heap.size, o, none⟩) (by first | omega | (simp <;> omega))
    have fw1_0 := fun o => hw1.frozen (p := ⟨w.heap.size, o, none⟩) (by first | omega | (simp <;> omega))
    have zw1_1 : w.heap.size + 1 < w1.heap.size := by omega
    have cw1_1 := fun o => hw1.cell (p := ⟨w.heap.size + 1, o, none⟩) (by first | omega | (simp <;> omega))
    have fw1_1 := fun o => hw1.frozen (p := ⟨w.heap.size + 1, o, none⟩) (by first | omega | (simp <;> omega))
    go_wp2_with fail
    exact bodyPost_ret (v := .tuple #[.int .u64 0, .agg #[.string ⟨#[]⟩, .int .i64 e]]) (by simp [results, Try.results11, go_sem, *]) rfl ⟨rfl, (by repeat' (first | exact Below.refl _ _ | (refine Below.drew ?_) | (refine Below.alloc ?_ (by first | omega | (simp <;> omega)) _) | (refine Below.setCell ?_ (by first | omega | (simp <;> omega)) _) | (refine Below.trans ?_ (Below.mono (by assumption) (by first | omega | (simp <;> omega))))))⟩
theorem rnext_at (s r : ByteArray) (e e' : Int) (v : Nat) (w : World) (hs : s.size ≤ maxLen) (h : Vr.next s e = (v, r, e')) :
    Calls Try.prog 11 #[.agg #[.string s, .int .i64 e]] w fun x w' => x = .returned (.tuple #[.int .u64 (v : Nat), .agg #[.string r, .int .i64 e']]) ∧ Below w.heap.size w w' := by
  by_cases he : e = 0
  · subst he; rw [Vr.next_zero] at h; simp only [Prod.mk.injEq] at h; obtain ⟨rfl, rfl, rfl⟩ := h; exact rnext_any s w hs
  · rw [Vr.next_err s he] at h; simp only [Prod.mk.injEq] at h; obtain ⟨rfl, rfl, rfl⟩ := h; exact rnext_err s e w he
theorem rtext_at (s a r : ByteArray) (e e' : Int) (m : Nat) (w : World) (hs : s.size ≤ maxLen) (h : Vr.text s e m = (a, r, e')) :
    Calls Try.prog 13 #[.agg #[.string s, .int .i64 e], .int .u64 (m : Nat)] w fun x w' => x = .returned (.tuple #[.string a, .agg #[.string r, .int .i64 e']]) ∧ Below w.heap.size w w' := by
  generalize hx : Vr.next s e = x
  obtain ⟨v, q, e1⟩ := x
  obtain ⟨b1, b2⟩ := Vr.next_bd hx
  have hx' := Lib.hid hx
  have hs' := hs
  unfold maxLen at hs'
  by_cases he : e1 = 0
  · subst he
    by_cases h1 : m < v
    · rw [Vr.text_big hx h1] at h; simp only [Prod.mk.injEq] at h; obtain ⟨rfl, rfl, rfl⟩ := h
      clear hx
      go_enter Try.func13, Try.ntmps13
      go_wp2_with fail
      refine (rnext_at s q e 0 v _ hs hx'.out).mono ?_
      rintro e w1 ⟨rfl, hw1⟩
      have zw1 := hw1.size
      try simp at zw1
      have zw1_0 : w.heap.size < w1.heap.size := by omega
      have cw1_0 := fun o => hw1.cell (p := ⟨w.heap.size, o, none⟩) (by first | omega | (simp <;> omega))
      have fw1_0 := fun o => hw1.frozen (p := ⟨w.heap.size, o, none⟩) (by first | omega | (simp <;> omega))
      have zw1_1 : w.heap.size + 1 < w1.heap.size := by omega
      have cw1_1 := fun o => hw1.cell (p := ⟨w.heap.size + 1, o, none⟩) (by first | omega | (simp <;> omega))
      have fw1_1 := fun o => hw1.frozen (p := ⟨w.heap.size + 1, o, none⟩) (by first | omega | (simp <;> omega))
      go_wp2_with fail
      refine (rfail_ok _ _ _).mono ?_
      rintro e w2 ⟨rfl, hw2⟩
      have zw2 := hw2.size
      try simp at zw2
      have zw2_0 : w.heap.size < w2.heap.size := by omega
      have cw2_0 := fun o => hw2.cell (p := ⟨w.heap.size, o, none⟩) (by first | omega | (simp <;> omega))
      have fw2_0 := fun o => hw2.frozen (p := ⟨w.heap.size, o, none⟩) (by first | omega | (simp <;> omega))
      have zw2_1 : w.heap.size + 1 < w2.heap.size := by omega
      have cw2_1 := fun o => hw2.cell (p := ⟨w.heap.size + 1, o, none⟩) (by first | omega | (simp <;> omega))
      have fw2_1 := fun o => hw2.frozen (p := ⟨w.heap.size + 1, o, none⟩) (by first | omega | (simp <;> omega))
      have zw2_2 : w1.heap.size < w2.heap.size := by omega
      have cw2_2 := fun o => hw2.cell (p := ⟨w1.heap.size, o, none⟩) (by first | omega | (simp <;> omega))
      have fw2_2 := fun o => hw2.frozen (p := ⟨w1.heap.size, o, none⟩) (by first | omega | (simp <;> omega))
      go_wp2_with fail
      exact bodyPost_ret (v := .tuple #[.string ⟨#[]⟩, .agg #[.string ⟨#[]⟩, .int .i64 3]]) (by simp [results, Try.results13, go_sem, *]) rfl ⟨rfl, (by repeat' (first | exact Below.refl _ _ | (refine Below.drew ?_) | (refine Below.alloc ?_ (by first | omega | (simp <;> omega)) _) | (refine Below.setCell ?_ (by first | omega | (simp <;> omega)) _) | (refine Below.trans ?_ (Below.mono (by assumption) (by first | omega | (simp <;> omega))))))⟩
    · by_cases h2 : q.size < v
      · rw [Vr.text_short hx (by omega) h2] at h; simp only [Prod.mk.injEq] at h; obtain ⟨rfl, rfl, rfl⟩ := h
        clear hx
        go_enter Try.func13, Try.ntmps13
        go_wp2_with fail
        refine (rnext_at s q e 0 v _ hs hx'.out).mono ?_
        rintro e w1 ⟨rfl, hw1⟩
        have zw1 := hw1.size
        try simp at zw1
        have zw1_0 : w.heap.size < w1.heap.size := by omega
        have cw1_0 := fun o => hw1.cell (p := ⟨w.heap.size, o, none⟩) (by first | omega | (simp <;> omega))
        have fw1_0 := fun o => hw1.frozen (p := ⟨w.heap.size, o, none⟩) (by first | omega | (simp <;> omega))
        have zw1_1 : w.heap.size + 1 < w1.heap.size := by omega
        have cw1_1 := fun o => hw1.cell (p := ⟨w.heap.size + 1, o, none⟩) (by first | omega | (simp <;> omega))
        have fw1_1 := fun o => hw1.frozen (p := ⟨w.heap.size + 1, o, none⟩) (by first | omega | (simp <;> omega))
        go_wp2_with fail
        refine (rfail_ok _ _ _).mono ?_
        rintro e w2 ⟨rfl, hw2⟩
        have zw2 := hw2.size
        try simp at zw2
        have zw2_0 : w.heap.size < w2.heap.size := by omega
        have cw2_0 := fun o => hw2.cell (p := ⟨w.heap.size, o, none⟩) (by first | omega | (simp <;> omega))
        have fw2_0 := fun o => hw2.frozen (p := ⟨w.heap.size, o, none⟩) (by first | omega | (simp <;> omega))
        have zw2_1 : w.heap.size + 1 < w2.heap.size := by omega
        have cw2_1 := fun o => hw2.cell (p := ⟨w.heap.size + 1, o, none⟩) (by first | omega | (simp <;> omega))
        have fw2_1 := fun o => hw2.frozen (p := ⟨w.heap.size + 1, o, none⟩) (by first | omega | (simp <;> omega))
        have zw2_2 : w1.heap.size < w2.heap.size := by omega
        have cw2_2 := fun o => hw2.cell (p := ⟨w1.heap.size, o, none⟩) (by first | omega | (simp <;> omega))
        have fw2_2 := fun o => hw2.frozen (p := ⟨w1.heap.size, o, none⟩) (by first | omega | (simp <;> omega))
        go_wp2_with fail
        exact bodyPost_ret (v := .tuple #[.string ⟨#[]⟩, .agg #[.string ⟨#[]⟩, .int .i64 4]]) (by simp [results, Try.results13, go_sem, *]) rfl ⟨rfl, (by repeat' (first | exact Below.refl _ _ | (refine Below.drew ?_) | (refine Below.alloc ?_ (by first | omega | (simp <;> omega)) _) | (refine Below.setCell ?_ (by first | omega | (simp <;> omega)) _) | (refine Below.trans ?_ (Below.mono (by assumption) (by first | omega | (simp <;> omega))))))⟩
      · rw [Vr.text_ok hx (by omega) (by omega)] at h
        have H := Lib.hid h
        clear hx h
        go_enter Try.func13, Try.ntmps13
        go_wp2_with fail
        refine (rnext_at s q e 0 v _ hs hx'.out).mono ?_
        rintro e w1 ⟨rfl, hw1⟩
        have zw1 := hw1.size
        try simp at zw1
        have zw1_0 : w.heap.size < w1.heap.size := by omega
        have cw1_0 := fun o => hw1.cell (p := ⟨w.heap.size, o, none⟩) (by first | omega | (simp <;> omega))
        have fw1_0 := fun o => hw1.frozen (p := ⟨w.heap.size, o, none⟩) (by first | omega | (simp <;> omega))
        have zw1_1 : w.heap.size + 1 < w1.heap.size := by omega
        have cw1_1 := fun o => hw1.cell (p := ⟨w.heap.size + 1, o, none⟩) (by first | omega | (simp <;> omega))
        have fw1_1 := fun o => hw1.frozen (p := ⟨w.heap.size + 1, o, none⟩) (by first | omega | (simp <;> omega))
        go_wp2_with fail
        refine (rbytes_at q a r 0 e' v _ H.out).mono ?_
        rintro e w2 ⟨rfl, hw2⟩
        have zw2 := hw2.size
        try simp at zw2
        have zw2_0 : w.heap.size < w2.heap.size := by omega
        have cw2_0 := fun o => hw2.cell (p := ⟨w.heap.size, o, none⟩) (by first | omega | (simp <;> omega))
        have fw2_0 := fun o => hw2.frozen (p := ⟨w.heap.size, o, none⟩) (by first | omega | (simp <;> omega))
        have zw2_1 : w.heap.size + 1 < w2.heap.size := by omega
        have cw2_1 := fun o => hw2.cell (p := ⟨w.heap.size + 1, o, none⟩) (by first | omega | (simp <;> omega))
        have fw2_1 := fun o => hw2.frozen (p := ⟨w.heap.size + 1, o, none⟩) (by first | omega | (simp <;> omega))
        have zw2_2 : w1.heap.size < w2.heap.size := by omega
        have cw2_2 := fun o => hw2.cell (p := ⟨w1.heap.size, o, none⟩) (by first | omega | (simp <;> omega))
        have fw2_2 := fun o => hw2.frozen (p := ⟨w1.heap.size, o, none⟩) (by first | omega | (simp <;> omega))
        go_wp2_with fail
        exact bodyPost_ret (v := .tuple #[.string a, .agg #[.string r, .int .i64 e']]) (by simp [results, Try.results13, go_sem, *]) rfl ⟨rfl, (by repeat' (first | exact Below.refl _ _ | (refine Below.drew ?_) | (refine Below.alloc ?_ (by first | omega | (simp <;> omega)) _) | (refine Below.setCell ?_ (by first | omega | (simp <;> omega)) _) | (refine Below.trans ?_ (Below.mono (by assumption) (by first | omega | (simp <;> omega))))))⟩
  · obtain rfl : v = 0 := Vr.next_zero_of hx he
    rw [Vr.text_ok hx (Nat.zero_le _) (Nat.zero_le _)] at h
    have H := Lib.hid h
    clear hx h b1
    go_enter Try.func13, Try.ntmps13
    go_wp2_with fail
    refine (rnext_at s q e e1 0 _ hs hx'.out).mono ?_
    rintro e w1 ⟨rfl, hw1⟩
    have zw1 := hw1.size
    try simp at zw1
    have zw1_0 : w.heap.size < w1.heap.size := by omega
    have cw1_0 := fun o => hw1.cell (p := ⟨w.heap.size, o, none⟩) (by first | omega | (simp <;> omega))
    have fw1_0 := fun o => hw1.frozen (p := ⟨w.heap.size, o, none⟩) (by first | omega | (simp <;> omega))
    have zw1_1 : w.heap.size + 1 < w1.heap.size := by omega
    have cw1_1 := fun o => hw1.cell (p := ⟨w.heap.size + 1, o, none⟩) (by first | omega | (simp <;> omega))
    have fw1_1 := fun o => hw1.frozen (p := ⟨w.heap.size + 1, o, none⟩) (by first | omega | (simp <;> omega))
    go_wp2_with fail
    refine (rbytes_at q a r e1 e' 0 _ H.out).mono ?_
    rintro e w2 ⟨rfl, hw2⟩
    have zw2 := hw2.size
    try simp at zw2
    have zw2_0 : w.heap.size < w2.heap.size := by omega
    have cw2_0 := fun o => hw2.cell (p := ⟨w.heap.size, o, none⟩) (by first | omega | (simp <;> omega))
    have fw2_0 := fun o => hw2.frozen (p := ⟨w.heap.size, o, none⟩) (by first | omega | (simp <;> omega))
    have zw2_1 : w.heap.size + 1 < w2.heap.size := by omega
    have cw2_1 := fun o => hw2.cell (p := ⟨w.heap.size + 1, o, none⟩) (by first | omega | (simp <;> omega))
    have fw2_1 := fun o => hw2.frozen (p := ⟨w.heap.size + 1, o, none⟩) (by first | omega | (simp <;> omega))
    have zw2_2 : w1.heap.size < w2.heap.size := by omega
    have cw2_2 := fun o => hw2.cell (p := ⟨w1.heap.size, o, none⟩) (by first | omega | (simp <;> omega))
    have fw2_2 := fun o => hw2.frozen (p := ⟨w1.heap.size, o, none⟩) (by first | omega | (simp <;> omega))
    go_wp2_with fail
    exact bodyPost_ret (v := .tuple #[.string a, .agg #[.string r, .int .i64 e']]) (by simp [results, Try.results13, go_sem, *]) rfl ⟨rfl, (by repeat' (first | exact Below.refl _ _ | (refine Below.drew ?_) | (refine Below.alloc ?_ (by first | omega | (simp <;> omega)) _) | (refine Below.setCell ?_ (by first | omega | (simp <;> omega)) _) | (refine Below.trans ?_ (Below.mono (by assumption) (by first | omega | (simp <;> omega))))))⟩
end Go.Proofs.Ytahckijanjbagaa
