/- Plain facts about the checksum, on numbers and lists of bytes. -/
import Derived.Laws.BitsAllLaws
namespace Go.Proofs.Ytikojhcnafnjoaa.Sm

def run (a b : Int) : List UInt8 → Int × Int
  | [] => (a, b)
  | c :: l => run ((a + (c.toNat : Int)) % 65521) ((b + (a + (c.toNat : Int)) % 65521) % 65521) l
def lo (x : Int) : Int := x % 65536 % 65521
def hi (x : Int) : Int := x / 65536 % 65521
def addS (x : Int) (l : List UInt8) : Int := (run (lo x) (hi x) l).2 * 65536 + (run (lo x) (hi x) l).1
def joinS (x y n : Int) : Int :=
  (hi y + hi x + (lo x + 65520) % 65521 * (max n 0 % 65521)) % 65521 * 65536 + (lo x + lo y + 65520) % 65521

theorem lo_bd (x : Int) : 0 ≤ lo x ∧ lo x < 65521 := by unfold lo; omega
theorem hi_bd (x : Int) : 0 ≤ hi x ∧ hi x < 65521 := by unfold hi; omega
theorem run_bd (l : List UInt8) : ∀ a b : Int, 0 ≤ a → a < 65521 → 0 ≤ b → b < 65521 →
    0 ≤ (run a b l).1 ∧ (run a b l).1 < 65521 ∧ 0 ≤ (run a b l).2 ∧ (run a b l).2 < 65521 := by
  induction l with
  | nil => intro a b _ _ _ _; exact ⟨by assumption, by assumption, by assumption, by assumption⟩
  | cons c l ih => intro a b _ _ _ _; simp only [run]; exact ih _ _ (by omega) (by omega) (by omega) (by omega)
theorem addS_bd (x : Int) (l : List UInt8) : 0 ≤ addS x l ∧ addS x l < 4294967296 := by
  have h := run_bd l (lo x) (hi x) (lo_bd x).1 (lo_bd x).2 (hi_bd x).1 (hi_bd x).2
  unfold addS; omega
theorem joinS_bd (x y n : Int) : 0 ≤ joinS x y n ∧ joinS x y n < 4294967296 := by
  unfold joinS; omega
theorem run_append (l m : List UInt8) : ∀ a b, run a b (l ++ m) = run (run a b l).1 (run a b l).2 m := by
  induction l with
  | nil => intro a b; rfl
  | cons c l ih => intro a b; simp only [List.cons_append, run]; exact ih _ _
theorem lo_mk (a b : Int) (h0 : 0 ≤ a) (h1 : a < 65521) : lo (b * 65536 + a) = a := by unfold lo; omega
theorem hi_mk (a b : Int) (h0 : 0 ≤ a) (h1 : a < 65521) (h2 : 0 ≤ b) (h3 : b < 65521) : hi (b * 65536 + a) = b := by unfold hi; omega
theorem lo_add (x : Int) (l : List UInt8) : lo (addS x l) = (run (lo x) (hi x) l).1 := by
  have h := run_bd l (lo x) (hi x) (lo_bd x).1 (lo_bd x).2 (hi_bd x).1 (hi_bd x).2
  unfold addS; exact lo_mk _ _ h.1 h.2.1
theorem hi_add (x : Int) (l : List UInt8) : hi (addS x l) = (run (lo x) (hi x) l).2 := by
  have h := run_bd l (lo x) (hi x) (lo_bd x).1 (lo_bd x).2 (hi_bd x).1 (hi_bd x).2
  unfold addS; exact hi_mk _ _ h.1 h.2.1 h.2.2.1 h.2.2.2
theorem addS_append (x : Int) (l m : List UInt8) : addS x (l ++ m) = addS (addS x l) m := by
  show _ = (run (lo (addS x l)) (hi (addS x l)) m).2 * 65536 + (run (lo (addS x l)) (hi (addS x l)) m).1
  rw [lo_add, hi_add, ← run_append]; rfl
theorem lo_join (x y n : Int) : lo (joinS x y n) = (lo x + lo y + 65520) % 65521 := by
  unfold joinS; exact lo_mk _ _ (by omega) (by omega)
theorem hi_join (x y n : Int) : hi (joinS x y n) = (hi y + hi x + (lo x + 65520) % 65521 * (max n 0 % 65521)) % 65521 := by
  unfold joinS; exact hi_mk _ _ (by omega) (by omega) (by omega) (by omega)

/- what the bytes come to, and how many times each counts -/
def total : List UInt8 → Int
  | [] => 0
  | c :: l => (c.toNat : Int) + total l
def weigh : List UInt8 → Int
  | [] => 0
  | c :: l => ((l.length : Int) + 1) * (c.toNat : Int) + weigh l

theorem emod_mul_left (n a : Int) : (n * (a % 65521)) % 65521 = (n * a) % 65521 := by
  rw [Int.mul_emod, Int.emod_emod_of_dvd _ (Int.dvd_refl 65521), ← Int.mul_emod]
theorem run_eq (l : List UInt8) : ∀ a b : Int, 0 ≤ a → a < 65521 → 0 ≤ b → b < 65521 →
    run a b l = ((a + total l) % 65521, (b + (l.length : Int) * a + weigh l) % 65521) := by
  induction l with
  | nil => intro a b _ _ _ _; simp only [run, total, weigh, List.length_nil]; ext <;> simp <;> omega
  | cons c l ih =>
    intro a b _ _ _ _
    simp only [run]
    rw [ih _ _ (by omega) (by omega) (by omega) (by omega)]
    have e := emod_mul_left (l.length : Int) (a + (c.toNat : Int))
    have e2 : ((l.length : Int) + 1) * (c.toNat : Int) = (l.length : Int) * (c.toNat : Int) + (c.toNat : Int) := by rw [Int.add_mul, Int.one_mul]
    have e3 : ((l.length : Int) + 1) * a = (l.length : Int) * a + a := by rw [Int.add_mul, Int.one_mul]
    have e4 : (l.length : Int) * (a + (c.toNat : Int)) = (l.length : Int) * a + (l.length : Int) * (c.toNat : Int) := Int.mul_add _ _ _
    ext
    · simp only [total]; omega
    · simp only [weigh, List.length_cons]
      push_cast
      omega
theorem total_append (l m : List UInt8) : total (l ++ m) = total l + total m := by
  induction l with
  | nil => simp [total]
  | cons c l ih => simp only [List.cons_append, total, ih]; omega
theorem total_nonneg (l : List UInt8) : 0 ≤ total l := by
  induction l with
  | nil => exact Int.le_refl _
  | cons c l ih => simp only [total]; omega
theorem lo_one : lo 1 = 1 := by decide
theorem hi_one : hi 1 = 0 := by decide
theorem of_run (l : List UInt8) : run 1 0 l = ((1 + total l) % 65521, ((l.length : Int) + weigh l) % 65521) := by
  rw [run_eq l 1 0 (by omega) (by omega) (by omega) (by omega)]; simp
theorem add_join (x : Int) (m : List UInt8) (n : Int) (hn : n = (m.length : Int)) : addS x m = joinS x (addS 1 m) n := by
  subst hn
  have h := lo_bd x
  have h' := hi_bd x
  unfold joinS
  rw [lo_add, hi_add, lo_one, hi_one]
  unfold addS
  rw [run_eq m _ _ h.1 h.2 h'.1 h'.2, of_run m]
  have e0 : max (m.length : Int) 0 = (m.length : Int) := by omega
  rw [e0]
  have e1 := emod_mul_left ((lo x + 65520) % 65521) (m.length : Int)
  have e2 := emod_mul_left (m.length : Int) (lo x + 65520)
  rw [Int.mul_comm] at e2
  have e3 : (m.length : Int) * (lo x + 65520) = (m.length : Int) * lo x + (m.length : Int) * 65520 := Int.mul_add _ _ _
  have g1 : ((m.length : Int) * lo x + (hi x) + weigh m) % 65521 = (((m.length : Int) + weigh m) % 65521 + hi x + (lo x + 65520) % 65521 * ((m.length : Int) % 65521)) % 65521 := by omega
  have g2 : (lo x + total m) % 65521 = (lo x + (1 + total m) % 65521 + 65520) % 65521 := by omega
  simp only []
  rw [← g1, ← g2]
  congr 3
  omega
theorem join_of (x : Int) (l m : List UInt8) (n : Int) (hn : n = (m.length : Int)) : joinS (addS x l) (addS 1 m) n = addS x (l ++ m) := by
  rw [addS_append, add_join (addS x l) m n hn]
theorem add_nil (x : Int) : addS x [] = hi x * 65536 + lo x := rfl
theorem join_nothing (x : Int) : joinS x 1 0 = addS x [] := by
  have h := lo_bd x
  have h' := hi_bd x
  rw [add_nil]; unfold joinS; rw [lo_one, hi_one]; simp; omega
theorem join_neg (x y n : Int) (h : n < 0) : joinS x y n = joinS x y 0 := by
  unfold joinS; rw [show max n 0 = max 0 0 from by omega]
theorem join_first (y : Int) : joinS 1 y 5 = addS y [] := by
  have h := lo_bd y
  have h' := hi_bd y
  rw [add_nil]; unfold joinS; rw [lo_one, hi_one]; simp; omega
theorem add_less (x : Int) (l : List UInt8) : addS (addS x []) l = addS x l := by rw [← addS_append]; rfl
theorem join_less (x y : Int) : joinS (joinS x 1 0) (addS y []) 7 = joinS x y 7 := by
  rw [join_nothing]; unfold joinS; rw [lo_add, hi_add, lo_add, hi_add]; rfl
theorem zeros_total (n : Nat) : total (List.replicate n 0) = 0 ∧ weigh (List.replicate n 0) = 0 := by
  induction n with
  | zero => exact ⟨rfl, rfl⟩
  | succ n ih => simp only [List.replicate_succ, total, weigh, ih.1, ih.2]; simp
theorem of_zeros (n : Nat) (h : n ≤ 255) : addS 1 (List.replicate n 0) = (n : Int) * 65536 + 1 := by
  have e := zeros_total n
  unfold addS; rw [lo_one, hi_one, of_run, e.1, e.2]; simp; omega
/- one byte another one -/
theorem weigh_append (l m : List UInt8) : weigh (l ++ m) = weigh l + (m.length : Int) * total l + weigh m := by
  induction l with
  | nil => simp [weigh, total]
  | cons c l ih =>
    simp only [List.cons_append, weigh, total, ih, List.length_append]
    push_cast
    rw [Int.add_mul, Int.add_mul, Int.add_mul, Int.mul_add]
    omega
theorem addS_eq_iff (l m : List UInt8) : addS 1 l = addS 1 m ↔ (run 1 0 l = run 1 0 m) := by
  have hl := run_bd l 1 0 (by decide) (by decide) (by decide) (by decide)
  have hm := run_bd m 1 0 (by decide) (by decide) (by decide) (by decide)
  unfold addS; rw [lo_one, hi_one]
  constructor
  · intro h; ext <;> omega
  · intro h; rw [h]
theorem other_one (l r : List UInt8) (x y : UInt8) : (addS 1 (l ++ y :: r) = addS 1 (l ++ x :: r)) ↔ x = y := by
  constructor
  · intro h
    rw [addS_eq_iff, of_run, of_run] at h
    have h1 := congrArg Prod.fst h
    simp only [total_append, total] at h1
    have a := x.toNat_lt
    have b := y.toNat_lt
    apply UInt8.toNat_inj.1
    omega
  · rintro rfl; rfl
theorem other_way (l r : List UInt8) (x y : UInt8) : (addS 1 (l ++ y :: x :: r) = addS 1 (l ++ x :: y :: r)) ↔ x = y := by
  constructor
  · intro h
    rw [addS_eq_iff, of_run, of_run] at h
    have h2 := congrArg Prod.snd h
    simp only [weigh_append, weigh, List.length_append, List.length_cons] at h2
    have a := x.toNat_lt
    have b := y.toNat_lt
    push_cast at h2
    have e : ∀ c : Int, ((r.length : Int) + 1 + 1) * c = ((r.length : Int) + 1) * c + c := fun c => by rw [Int.add_mul, Int.one_mul]
    simp only [e] at h2
    apply UInt8.toNat_inj.1
    omega
  · rintro rfl; rfl
theorem weigh_nonneg (l : List UInt8) : 0 ≤ weigh l := by
  induction l with
  | nil => exact Int.le_refl _
  | cons c l ih => simp only [weigh]; have := Int.mul_nonneg (show (0 : Int) ≤ (l.length : Int) + 1 by omega) (show (0 : Int) ≤ (c.toNat : Int) by omega); omega
theorem total_le (l : List UInt8) : total l ≤ 255 * (l.length : Int) := by
  induction l with
  | nil => simp [total]
  | cons c l ih => simp only [total, List.length_cons]; have := c.toNat_lt; push_cast; omega
theorem weigh_le (l : List UInt8) : weigh l ≤ 255 * ((l.length : Int) * (l.length : Int)) := by
  induction l with
  | nil => simp [weigh]
  | cons c l ih =>
    simp only [weigh, List.length_cons]
    have h1 := c.toNat_lt
    have h2 : ((l.length : Int) + 1) * (c.toNat : Int) ≤ ((l.length : Int) + 1) * 255 := Int.mul_le_mul_of_nonneg_left (by omega) (by omega)
    push_cast
    have e : ((l.length : Int) + 1) * ((l.length : Int) + 1) = (l.length : Int) * (l.length : Int) + 2 * (l.length : Int) + 1 := by
      rw [Int.add_mul, Int.mul_add]; omega
    rw [e]; omega
theorem drop_bd (l : List UInt8) (k : Nat) : 0 ≤ total (l.drop k) ∧ total (l.drop k) ≤ total l ∧ 0 ≤ weigh (l.drop k) ∧ weigh (l.drop k) ≤ weigh l := by
  have e := List.take_append_drop k l
  have t1 := total_append (l.take k) (l.drop k)
  have w1 := weigh_append (l.take k) (l.drop k)
  rw [e] at t1 w1
  have a1 := total_nonneg (l.take k)
  have a2 := weigh_nonneg (l.take k)
  have a3 := Int.mul_nonneg (show (0 : Int) ≤ ((l.drop k).length : Int) by omega) a1
  exact ⟨total_nonneg _, by omega, weigh_nonneg _, by omega⟩
theorem drop_step (l : List UInt8) (k : Nat) (h : k < l.length) : total (l.drop k) = (l[k].toNat : Int) + total (l.drop (k + 1)) ∧
    weigh (l.drop k) = (l[k].toNat : Int) * ((l.length : Int) - (k : Int)) + weigh (l.drop (k + 1)) := by
  rw [List.drop_eq_getElem_cons h]
  simp only [total, weigh, List.length_drop, true_and]
  rw [Int.mul_comm]
  congr 2
  omega
theorem of_few (l : List UInt8) (h : l.length ≤ 12) : addS 1 l = ((l.length : Int) + weigh l) * 65536 + (1 + total l) := by
  have h1 := total_le l
  have h2 := weigh_le l
  have h3 := total_nonneg l
  have h4 := weigh_nonneg l
  have h5 : (l.length : Int) * (l.length : Int) ≤ 12 * 12 := Int.mul_le_mul (by omega) (by omega) (by omega) (by omega)
  unfold addS; rw [lo_one, hi_one, of_run]
  simp only []
  rw [Int.emod_eq_of_lt (by omega) (by omega), Int.emod_eq_of_lt (by omega) (by omega)]
end Go.Proofs.Ytikojhcnafnjoaa.Sm
