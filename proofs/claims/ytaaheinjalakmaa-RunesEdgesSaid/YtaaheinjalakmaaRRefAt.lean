/- The document's own answer: what begins and ends at a place. -/
import Derived.Test.YtaaheinjalakmaaRRefAll
set_option linter.unusedVariables false
namespace Go.Proofs.Ytaaheinjalakmaa
open Go.RowKit

theorem bytes_of_begins {s : ByteArray} {x : Int} {r a z : Nat} {b : Bool} (h : Rn.BeginsT s x r a z b) {k : Nat} (hk : k < Rn.cnt s) (hx : (Rn.pos s k : Int) = x) : r = Rn.dR s (Rn.pos s k) ∧ a = Rn.pos s k ∧ z = Rn.dW s (Rn.pos s k) ∧ b = true :=
  Rn.beginsT_yes h hx.symm ⟨k, rfl⟩ ((Rn.cnt_lt s k).1 hk)
theorem none_of_begins {s : ByteArray} {x : Int} {r a z : Nat} {b : Bool} (h : Rn.BeginsT s x r a z b) (hm : ∀ k, k < Rn.cnt s → (Rn.pos s k : Int) ≠ x) : r = 0 ∧ a = 0 ∧ z = 0 ∧ b = false :=
  Rn.beginsT_no h (fun p hx hr hp => by obtain ⟨k, rfl⟩ := hr; exact hm k ((Rn.cnt_lt s k).2 hp) hx.symm)
theorem bytes_of_ends {s : ByteArray} {x : Int} {r a z : Nat} {b : Bool} (h : Rn.EndsT s x r a z b) {k : Nat} (hk : k < Rn.cnt s) (hx : (Rn.pos s k : Int) + (Rn.dW s (Rn.pos s k) : Int) = x) : r = Rn.dR s (Rn.pos s k) ∧ a = Rn.pos s k ∧ z = Rn.dW s (Rn.pos s k) ∧ b = true :=
  Rn.endsT_yes h hx.symm ⟨k, rfl⟩ ((Rn.cnt_lt s k).1 hk)
theorem none_of_ends {s : ByteArray} {x : Int} {r a z : Nat} {b : Bool} (h : Rn.EndsT s x r a z b) (hm : ∀ k, k < Rn.cnt s → (Rn.pos s k : Int) + (Rn.dW s (Rn.pos s k) : Int) ≠ x) : r = 0 ∧ a = 0 ∧ z = 0 ∧ b = false :=
  Rn.endsT_no h (fun p hx hr hp => by obtain ⟨k, rfl⟩ := hr; exact hm k ((Rn.cnt_lt s k).2 hp) hx.symm)
set_option maxHeartbeats 1600000 in
theorem rat_any (s : ByteArray) (x : Int) (r a z : Nat) (b : Bool) (w : World) (hs : s.size ≤ 4398046511104) (x0 : -9223372036854775808 ≤ x) (x1 : x ≤ 9223372036854775807) (h : Rn.BeginsT s x r a z b) :
    Calls Try.prog 13 #[.string s, .int .i64 x] w fun e w' => e = .returned (.tuple #[.agg #[.int .i32 (r : Int), .int .i64 (a : Int), .int .i64 (z : Int)], .bool b]) ∧ Below w.heap.size w w' := by
  have H := Lib.hid h
  clear h
  have hc := Rn.cnt_le s
  go_enter Try.func13, Try.ntmps13
  go_wp2_with fail
  refine (rall_any s _ hs).mono ?_
  rintro e w1 ⟨v, rfl, hown, hb1⟩
  have hrow := row_of hown
  obtain ⟨t0, t1, t2, t3, t4⟩ := (Three.new w (.int .i32 0) (.int .i64 0) (.int .i64 0) 31).below hb1 (by simp)
  have bb : Below w.heap.size w w1 := ((Below.refl _ _).alloc (Nat.le_refl _) _).trans (hb1.mono (by simp))
  have hl := Rn.all_len s
  clear hown hb1
  rcases hrow with ⟨rfl, h0⟩ | ⟨g, cap, rfl, hg, hgl, hcap, hcell⟩
  · obtain ⟨rfl, rfl, rfl, rfl⟩ := none_of_begins H.out (fun k hk => by rw [← hl, h0] at hk; simp at hk)
    clear h0 hl
    go_wp2_with fail
    go_loop [7] (fun i => i = .int .i64 0) (fun _ => 0)
    case atStart => rfl
    case round =>
      subst hrel
      go_wp2_with fail
      exact bodyPost_ret (v := .tuple #[.agg #[.int .i32 0, .int .i64 0, .int .i64 0], .bool false]) (by simp [results, Try.results13, go_sem, *]) rfl ⟨rfl, (by repeat' (first | exact Below.refl _ _ | (refine Below.drew ?_) | (refine bdrewN ?_) | (refine Below.alloc ?_ (by first | omega | (simp <;> omega)) _) | (refine Below.setCell ?_ (by first | omega | (simp <;> omega)) _) | (refine Below.trans ?_ (Below.mono (by assumption) (by first | omega | (simp <;> omega))))))⟩
  · have hC := Lib.hid hcell
    rw [hl] at hcap ⊢
    clear hl hcell
    go_wp2_with fail
    go_loop [7] (fun i => ∃ k : Nat, k ≤ Rn.cnt s ∧ i = .int .i64 (k : Int) ∧ Hid (∀ j, j < k → (Rn.pos s j : Int) ≠ x)) (fun i => Rn.cnt s - (intOf i).toNat)
    case atStart => exact ⟨0, Nat.zero_le _, rfl, Lib.hid fun j hj => absurd hj (Nat.not_lt_zero _)⟩
    case round =>
      obtain ⟨k, hk, rfl, hm⟩ := hrel
      by_cases hlt : k < Rn.cnt s
      · obtain ⟨c1, c2, c3⟩ := hC.out k (Rn.recN s k) (Rn.pre_get s k _ hlt)
        simp only [Rn.recN, Rn.recAt] at c1 c2 c3
        by_cases hx : (Rn.pos s k : Int) = x
        · obtain ⟨rfl, rfl, rfl, rfl⟩ := bytes_of_begins H.out hlt hx
          have hxb : ((Rn.pos s k : Int) == x) = true := by simpa using hx
          have HX := Lib.hid hx
          clear hx
          go_wp2_with fail
          exact bodyPost_ret (v := .tuple #[.agg #[.int .i32 (Rn.dR s (Rn.pos s k) : Int), .int .i64 (Rn.pos s k : Int), .int .i64 (Rn.dW s (Rn.pos s k) : Int)], .bool true]) (by simp [results, Try.results13, go_sem, *]) rfl ⟨rfl, (by repeat' (first | exact Below.refl _ _ | (refine Below.drew ?_) | (refine bdrewN ?_) | (refine Below.alloc ?_ (by first | omega | (simp <;> omega)) _) | (refine Below.setCell ?_ (by first | omega | (simp <;> omega)) _) | (refine Below.trans ?_ (Below.mono (by assumption) (by first | omega | (simp <;> omega))))))⟩
        · have hxb : ((Rn.pos s k : Int) == x) = false := by simpa using hx
          have HX := Lib.hid hx
          clear hx
          go_wp2_with fail
          go_round
          case rel => exact ⟨k + 1, by omega, by go_num, Lib.hid fun j hj => by
            by_cases e : j = k
            · subst e; exact HX.out
            · exact hm.out j (by omega)⟩
          case measure => simp [intOf]; omega
      · obtain rfl : k = Rn.cnt s := by omega
        obtain ⟨rfl, rfl, rfl, rfl⟩ := none_of_begins H.out hm.out
        go_wp2_with fail
        exact bodyPost_ret (v := .tuple #[.agg #[.int .i32 0, .int .i64 0, .int .i64 0], .bool false]) (by simp [results, Try.results13, go_sem, *]) rfl ⟨rfl, (by repeat' (first | exact Below.refl _ _ | (refine Below.drew ?_) | (refine bdrewN ?_) | (refine Below.alloc ?_ (by first | omega | (simp <;> omega)) _) | (refine Below.setCell ?_ (by first | omega | (simp <;> omega)) _) | (refine Below.trans ?_ (Below.mono (by assumption) (by first | omega | (simp <;> omega))))))⟩
set_option maxHeartbeats 1600000 in
theorem rahead_any (s : ByteArray) (x : Int) (r a z : Nat) (b : Bool) (w : World) (hs : s.size ≤ 4398046511104) (x0 : -9223372036854775808 ≤ x) (x1 : x ≤ 9223372036854775807) (h : Rn.EndsT s x r a z b) :
    Calls Try.prog 15 #[.string s, .int .i64 x] w fun e w' => e = .returned (.tuple #[.agg #[.int .i32 (r : Int), .int .i64 (a : Int), .int .i64 (z : Int)], .bool b]) ∧ Below w.heap.size w w' := by
  have H := Lib.hid h
  clear h
  have hc := Rn.cnt_le s
  go_enter Try.func15, Try.ntmps15
  go_wp2_with fail
  refine (rall_any s _ hs).mono ?_
  rintro e w1 ⟨v, rfl, hown, hb1⟩
  have hrow := row_of hown
  obtain ⟨t0, t1, t2, t3, t4⟩ := (Three.new w (.int .i32 0) (.int .i64 0) (.int .i64 0) 31).below hb1 (by simp)
  have bb : Below w.heap.size w w1 := ((Below.refl _ _).alloc (Nat.le_refl _) _).trans (hb1.mono (by simp))
  have hl := Rn.all_len s
  clear hown hb1
  rcases hrow with ⟨rfl, h0⟩ | ⟨g, cap, rfl, hg, hgl, hcap, hcell⟩
  · obtain ⟨rfl, rfl, rfl, rfl⟩ := none_of_ends H.out (fun k hk => by rw [← hl, h0] at hk; simp at hk)
    clear h0 hl
    go_wp2_with fail
    go_loop [7] (fun i => i = .int .i64 0) (fun _ => 0)
    case atStart => rfl
    case round =>
      subst hrel
      go_wp2_with fail
      exact bodyPost_ret (v := .tuple #[.agg #[.int .i32 0, .int .i64 0, .int .i64 0], .bool false]) (by simp [results, Try.results15, go_sem, *]) rfl ⟨rfl, (by repeat' (first | exact Below.refl _ _ | (refine Below.drew ?_) | (refine bdrewN ?_) | (refine Below.alloc ?_ (by first | omega | (simp <;> omega)) _) | (refine Below.setCell ?_ (by first | omega | (simp <;> omega)) _) | (refine Below.trans ?_ (Below.mono (by assumption) (by first | omega | (simp <;> omega))))))⟩
  · have hC := Lib.hid hcell
    rw [hl] at hcap ⊢
    clear hl hcell
    go_wp2_with fail
    go_loopw [7] (fun i wr => Below w1.heap.size w1 wr ∧ ∃ k : Nat, k ≤ Rn.cnt s ∧ i = .int .i64 (k : Int) ∧ Hid (∀ j, j < k → (Rn.pos s j : Int) + (Rn.dW s (Rn.pos s j) : Int) ≠ x)) (fun i _ => Rn.cnt s - (intOf i).toNat)
    case atStart => exact ⟨Below.refl _ _, 0, Nat.zero_le _, rfl, Lib.hid fun j hj => absurd hj (Nat.not_lt_zero _)⟩
    case round =>
      obtain ⟨hbr, k, hk, rfl, hm⟩ := hrel
      obtain ⟨t0', t1', t2', t3', t4'⟩ := Three.below (B := w1.heap.size) ⟨t0, t1, t2, t3, t4⟩ hbr t4
      have bb' : Below w.heap.size w wr := bvia bb hbr
      by_cases hlt : k < Rn.cnt s
      · obtain ⟨c1, c2, c3⟩ := hC.out k (Rn.recN s k) (Rn.pre_get s k _ hlt)
        simp only [Rn.recN, Rn.recAt] at c1 c2 c3
        have c1' := (hbr.cell (p := ⟨g, k * 3, none⟩) hgl).trans c1
        have c2' := (hbr.cell (p := ⟨g, k * 3 + 1, none⟩) hgl).trans c2
        have c3' := (hbr.cell (p := ⟨g, k * 3 + 2, none⟩) hgl).trans c3
        have hpk := (Rn.cnt_lt s k).1 hlt
        have hwk := Rn.dW_le s _ hpk
        have hkl : (k : Int) < (Rn.cnt s : Int) := by omega
        clear t0 t1 t2 t3 c1 c2 c3 bb
        by_cases hx : (Rn.pos s k : Int) + (Rn.dW s (Rn.pos s k) : Int) = x
        · obtain ⟨rfl, rfl, rfl, rfl⟩ := bytes_of_ends H.out hlt hx
          have hxb : ((Rn.pos s k : Int) + (Rn.dW s (Rn.pos s k) : Int) == x) = true := by simpa using hx
          have HX := Lib.hid hx
          clear hx
          go_wp2_with fail
          go_quiet (fail)
          go_wp2_with fail
          exact bodyPost_ret (v := .tuple #[.agg #[.int .i32 (Rn.dR s (Rn.pos s k) : Int), .int .i64 (Rn.pos s k : Int), .int .i64 (Rn.dW s (Rn.pos s k) : Int)], .bool true]) (by simp [results, Try.results15, go_sem, *]) rfl ⟨rfl, (by repeat' (first | exact Below.refl _ _ | (refine Below.drew ?_) | (refine bdrewN ?_) | (refine Below.alloc ?_ (by first | omega | (simp <;> omega)) _) | (refine Below.setCell ?_ (by first | omega | (simp <;> omega)) _) | (refine Below.trans ?_ (Below.mono (by assumption) (by first | omega | (simp <;> omega))))))⟩
        · have hxb : ((Rn.pos s k : Int) + (Rn.dW s (Rn.pos s k) : Int) == x) = false := by simpa using hx
          have HX := Lib.hid hx
          clear hx
          go_wp2_with fail
          go_quiet (fail)
          go_wp2_with fail
          go_roundw
          case rel => exact ⟨hbr.trans ⟨rfl, rfl, rfl, Nat.le_refl _, fun _ _ => rfl⟩, k + 1, by omega, by go_num, Lib.hid fun j hj => by
            by_cases e : j = k
            · subst e; exact HX.out
            · exact hm.out j (by omega)⟩
          case measure => simp [intOf]; omega
      · obtain rfl : k = Rn.cnt s := by omega
        obtain ⟨rfl, rfl, rfl, rfl⟩ := none_of_ends H.out hm.out
        go_wp2_with fail
        exact bodyPost_ret (v := .tuple #[.agg #[.int .i32 0, .int .i64 0, .int .i64 0], .bool false]) (by simp [results, Try.results15, go_sem, *]) rfl ⟨rfl, (by repeat' (first | exact Below.refl _ _ | (refine Below.drew ?_) | (refine bdrewN ?_) | (refine Below.alloc ?_ (by first | omega | (simp <;> omega)) _) | (refine Below.setCell ?_ (by first | omega | (simp <;> omega)) _) | (refine Below.trans ?_ (Below.mono (by assumption) (by first | omega | (simp <;> omega))))))⟩
theorem rplace_any (s : ByteArray) (x : Int) (b : Bool) (w : World) (hs : s.size ≤ 4398046511104) (x0 : -9223372036854775808 ≤ x) (x1 : x ≤ 9223372036854775807) (h : Rn.Placed s x b) :
    Calls Try.prog 17 #[.string s, .int .i64 x] w fun e w' => e = .returned (.bool b) ∧ Below w.heap.size w w' := by
  obtain ⟨r, a, z, c, hE⟩ := Rn.endsT_some s x
  have key : b = (c || x == 0) := by
    cases c with
    | true =>
      obtain ⟨o, h1, h2⟩ := hE
      rcases h2 with ⟨y, rfl, _⟩ | ⟨_, _, _, _, h2⟩
      · rcases h1 with ⟨p, rfl, hr, hp, _⟩ | ⟨h1, _⟩
        · exact h.2 ⟨p + Rn.dW s p, by omega, Rn.reach_next hr hp⟩
        · cases h1
      · cases h2
    | false =>
      by_cases hx : x = 0
      · subst hx; exact h.2 ⟨0, rfl, Rn.reach_zero s⟩
      · have : (x == 0) = false := by simpa using hx
        rw [this]
        cases b with
        | false => rfl
        | true =>
          obtain ⟨q, rfl, hr⟩ := h.1 rfl
          obtain ⟨k, hk⟩ := hr
          exfalso
          cases k with
          | zero => exact hx (by rw [← hk]; rfl)
          | succ k =>
            have hmin : ∃ j, Rn.pos s j < s.size ∧ Rn.pos s (j + 1) = q := by
              clear h hE x0 x1 this
              induction k with
              | zero =>
                by_cases h0 : Rn.pos s 0 < s.size
                · exact ⟨0, h0, hk⟩
                · rw [Rn.pos_stay s 0 h0] at hk
                  exact absurd (by rw [← hk]; rfl) hx
              | succ k ih =>
                by_cases h0 : Rn.pos s (k + 1) < s.size
                · exact ⟨k + 1, h0, hk⟩
                · rw [Rn.pos_stay s _ h0] at hk
                  exact ih hk
            obtain ⟨j, hj, hq⟩ := hmin
            have := Rn.endsT_yes hE (p := Rn.pos s j) (by rw [← hq, Rn.pos_succ s j hj]; simp) ⟨j, rfl⟩ hj
            exact absurd this.2.2.2 (by simp)
  have H := Lib.hid hE
  have K := Lib.hid key
  clear hE key h
  cases c with
  | true =>
    go_enter Try.func17, Try.ntmps17
    go_wp2_with fail
    refine (rahead_any s x _ _ _ _ _ hs x0 x1 H.out).mono ?_
    rintro e w1 ⟨rfl, hw1⟩
    have zw1 := hw1.size
    try simp at zw1
    go_wp2_with fail
    go_ret
    exact ⟨ret_bool (by rw [K.out]; rfl), (by repeat' (first | exact Below.refl _ _ | (refine Below.drew ?_) | (refine bdrewN ?_) | (refine Below.alloc ?_ (by first | omega | (simp <;> omega)) _) | (refine Below.setCell ?_ (by first | omega | (simp <;> omega)) _) | (refine Below.trans ?_ (Below.mono (by assumption) (by first | omega | (simp <;> omega))))))⟩
  | false =>
    go_enter Try.func17, Try.ntmps17
    go_wp2_with fail
    refine (rahead_any s x _ _ _ _ _ hs x0 x1 H.out).mono ?_
    rintro e w1 ⟨rfl, hw1⟩
    have zw1 := hw1.size
    try simp at zw1
    go_wp2_with fail
    go_ret
    exact ⟨ret_bool (by rw [K.out]; rfl), (by repeat' (first | exact Below.refl _ _ | (refine Below.drew ?_) | (refine bdrewN ?_) | (refine Below.alloc ?_ (by first | omega | (simp <;> omega)) _) | (refine Below.setCell ?_ (by first | omega | (simp <;> omega)) _) | (refine Below.trans ?_ (Below.mono (by assumption) (by first | omega | (simp <;> omega))))))⟩
set_option maxHeartbeats 1600000 in
theorem redge_any (s : ByteArray) (x : Int) (r a z r' a' z' : Nat) (b b' : Bool) (w : World) (hs : s.size ≤ 4398046511104) (x0 : -9223372036854775808 ≤ x) (x1 : x ≤ 9223372036854775807) (h : Rn.EndsT s x r a z b) (h' : Rn.BeginsT s x r' a' z' b') :
    Calls Try.prog 19 #[.string s, .int .i64 x] w fun e w' => e = .returned (.bool ((b && Rn.wordB r) != (b' && Rn.wordB r'))) ∧ Below w.heap.size w w' := by
  have H := Lib.hid h
  have H' := Lib.hid h'
  clear h h'
  cases b <;> cases b'
  all_goals
    go_enter Try.func19, Try.ntmps19
    go_wp2_with fail
    refine (rahead_any s _ _ _ _ _ _ hs x0 x1 H.out).mono ?_
    rintro e w1 ⟨rfl, hw1⟩
    have zw1 := hw1.size
    try simp at zw1
    go_wp2_with fail
    refine (rat_any s _ _ _ _ _ _ hs x0 x1 H'.out).mono ?_
    rintro e w2 ⟨rfl, hw2⟩
    have zw2 := hw2.size
    try simp at zw2
    have zw2_0 : w1.heap.size < w2.heap.size := by omega
    have cw2_0 := fun o => hw2.cell (p := ⟨w1.heap.size, o, none⟩) (by first | omega | (simp <;> omega))
    have fw2_0 := fun o => hw2.frozen (p := ⟨w1.heap.size, o, none⟩) (by first | omega | (simp <;> omega))
    go_wp2_with fail
  · go_ret
    exact ⟨rfl, (by repeat' (first | exact Below.refl _ _ | (refine Below.drew ?_) | (refine bdrewN ?_) | (refine Below.alloc ?_ (by first | omega | (simp <;> omega)) _) | (refine Below.setCell ?_ (by first | omega | (simp <;> omega)) _) | (refine Below.trans ?_ (Below.mono (by assumption) (by first | omega | (simp <;> omega))))))⟩
  · refine (rword_any _ _).mono ?_
    rintro e w' ⟨rfl, rfl⟩
    go_wp2_with fail
    go_ret
    exact ⟨ret_bool (by simp), (by repeat' (first | exact Below.refl _ _ | (refine Below.drew ?_) | (refine bdrewN ?_) | (refine Below.alloc ?_ (by first | omega | (simp <;> omega)) _) | (refine Below.setCell ?_ (by first | omega | (simp <;> omega)) _) | (refine Below.trans ?_ (Below.mono (by assumption) (by first | omega | (simp <;> omega))))))⟩
  · refine (rword_any _ _).mono ?_
    rintro e w' ⟨rfl, rfl⟩
    go_wp2_with fail
    go_ret
    exact ⟨ret_bool (by simp), (by repeat' (first | exact Below.refl _ _ | (refine Below.drew ?_) | (refine bdrewN ?_) | (refine Below.alloc ?_ (by first | omega | (simp <;> omega)) _) | (refine Below.setCell ?_ (by first | omega | (simp <;> omega)) _) | (refine Below.trans ?_ (Below.mono (by assumption) (by first | omega | (simp <;> omega))))))⟩
  · refine (rword_any _ _).mono ?_
    rintro e w' ⟨rfl, rfl⟩
    go_wp2_with fail
    refine (rword_any _ _).mono ?_
    rintro e w' ⟨rfl, rfl⟩
    go_wp2_with fail
    go_ret
    exact ⟨ret_bool (by simp; cases Rn.wordB r <;> cases Rn.wordB r' <;> rfl), (by repeat' (first | exact Below.refl _ _ | (refine Below.drew ?_) | (refine bdrewN ?_) | (refine Below.alloc ?_ (by first | omega | (simp <;> omega)) _) | (refine Below.setCell ?_ (by first | omega | (simp <;> omega)) _) | (refine Below.trans ?_ (Below.mono (by assumption) (by first | omega | (simp <;> omega))))))⟩
end Go.Proofs.Ytaaheinjalakmaa
