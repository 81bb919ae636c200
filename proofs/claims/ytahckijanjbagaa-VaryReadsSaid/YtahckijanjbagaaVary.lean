/- The contracts of package vary and of the document's own answer to its chapter. -/
import Derived.Test.YtahckijanjbagaaKit
import Derived.Test.YtahckijanjbagaaVaryM
import Derived.RegionTactic
import Derived.ChangeAlike
import Derived.Outline
set_option linter.unusedVariables false
namespace Go.Proofs.Ytahckijanjbagaa
open Go.RowKit

theorem bcell {W w1 : World} (hb : Below W.heap.size W w1) : (∀ b o, b < W.heap.size → w1.cell? ⟨b, o, none⟩ = W.cell? ⟨b, o, none⟩) ∧ (∀ b o, b < W.heap.size → w1.frozen? ⟨b, o, none⟩ = W.frozen? ⟨b, o, none⟩) :=
  ⟨fun b o h => hb.cell (p := ⟨b, o, none⟩) h, fun b o h => hb.frozen (p := ⟨b, o, none⟩) h⟩

theorem broken_any (e : Int) (w : World) :
    Calls Try.prog 21 #[.int .i64 e] w fun x w' => x = .returned (.agg #[.string ⟨#[]⟩, .int .i64 e]) ∧ Below w.heap.size w w' := by
  go_enter Try.func21, Try.ntmps21
  go_wp2_with fail
  exact bodyPost_ret (v := .agg #[.string ⟨#[]⟩, .int .i64 e]) (by simp [results, Try.results21, go_sem]) rfl ⟨rfl, (by repeat' (first | exact Below.refl _ _ | (refine Below.drew ?_) | (refine Below.alloc ?_ (by first | omega | (simp <;> omega)) _) | (refine Below.setCell ?_ (by first | omega | (simp <;> omega)) _) | (refine Below.trans ?_ (Below.mono (by assumption) (by first | omega | (simp <;> omega))))))⟩

theorem end_any (s : ByteArray) (e : Int) (w : World) :
    Calls Try.prog 18 #[.agg #[.string s, .int .i64 e]] w fun x w' => x = .returned (.int .i64 (Vr.fin s e)) ∧ Below w.heap.size w w' := by
  by_cases he : e = 0
  · subst he
    by_cases hs : s.toList = []
    · have hf : Vr.fin s 0 = 0 := Vr.fin_none hs
      have hi : s.toList.isEmpty = true := by rw [hs]; rfl
      rw [hf]
      clear hf
      go_enter Try.func18, Try.ntmps18
      go_wp2_with fail
      go_ret
      exact ⟨rfl, (by repeat' (first | exact Below.refl _ _ | (refine Below.drew ?_) | (refine Below.alloc ?_ (by first | omega | (simp <;> omega)) _) | (refine Below.setCell ?_ (by first | omega | (simp <;> omega)) _) | (refine Below.trans ?_ (Below.mono (by assumption) (by first | omega | (simp <;> omega))))))⟩
    · have hf : Vr.fin s 0 = 8 := Vr.fin_some hs
      have hi : s.toList.isEmpty = false := by simpa using hs
      rw [hf]
      clear hf
      go_enter Try.func18, Try.ntmps18
      go_wp2_with fail
      go_ret
      exact ⟨rfl, (by repeat' (first | exact Below.refl _ _ | (refine Below.drew ?_) | (refine Below.alloc ?_ (by first | omega | (simp <;> omega)) _) | (refine Below.setCell ?_ (by first | omega | (simp <;> omega)) _) | (refine Below.trans ?_ (Below.mono (by assumption) (by first | omega | (simp <;> omega))))))⟩
  · have hf : Vr.fin s e = e := Vr.fin_err he
    rw [hf]
    clear hf
    go_enter Try.func18, Try.ntmps18
    go_wp2_with fail
    go_ret
    exact ⟨rfl, (by repeat' (first | exact Below.refl _ _ | (refine Below.drew ?_) | (refine Below.alloc ?_ (by first | omega | (simp <;> omega)) _) | (refine Below.setCell ?_ (by first | omega | (simp <;> omega)) _) | (refine Below.trans ?_ (Below.mono (by assumption) (by first | omega | (simp <;> omega))))))⟩

theorem bytes_err (s : ByteArray) (e n : Int) (w : World) (he : ¬ e = 0) :
    Calls Try.prog 14 #[.agg #[.string s, .int .i64 e], .int .i64 n] w fun x w' => x = .returned (.tuple #[.string ⟨#[]⟩, .agg #[.string ⟨#[]⟩, .int .i64 e]]) ∧ Below w.heap.size w w' := by
  go_enter Try.func14, Try.ntmps14
  go_wp2_with fail
  refine (broken_any _ _).mono ?_
  rintro e w1 ⟨rfl, hw1⟩
  have zw1 := hw1.size
  try simp at zw1
  have zw1_0 : w.heap.size < w1.heap.size := by omega
  have cw1_0 := fun o => hw1.cell (p := ⟨w.heap.size, o, none⟩) (by first | omega | (simp <;> omega))
  have fw1_0 := fun o => hw1.frozen (p := ⟨w.heap.size, o, none⟩) (by first | omega | (simp <;> omega))
  have zw1_1 : w.heap.size + 1 < w1.heap.size := by omega
  have cw1_1 := fun o => hw1.cell (p := ⟨w.heap.size + 1, o, none⟩) (by first | omega | (simp <;> omega))
  have fw1_1 := fun o => hw1.frozen (p := ⟨w.heap.size + 1, o, none⟩) (by first | omega | (simp <;> omega))
  go_wp2_with fail
  exact bodyPost_ret (v := .tuple #[.string ⟨#[]⟩, .agg #[.string ⟨#[]⟩, .int .i64 e]]) (by simp [results, Try.results14, go_sem, *]) rfl ⟨rfl, (by repeat' (first | exact Below.refl _ _ | (refine Below.drew ?_) | (refine Below.alloc ?_ (by first | omega | (simp <;> omega)) _) | (refine Below.setCell ?_ (by first | omega | (simp <;> omega)) _) | (refine Below.trans ?_ (Below.mono (by assumption) (by first | omega | (simp <;> omega))))))⟩
theorem bytes_short (s : ByteArray) (n : Int) (w : World) (hn : n < 0 ∨ (s.size : Int) < n) :
    Calls Try.prog 14 #[.agg #[.string s, .int .i64 0], .int .i64 n] w fun x w' => x = .returned (.tuple #[.string ⟨#[]⟩, .agg #[.string ⟨#[]⟩, .int .i64 4]]) ∧ Below w.heap.size w w' := by
  rcases hn with hn | hn
  all_goals
    go_enter Try.func14, Try.ntmps14
    go_wp2_with fail
    refine (broken_any _ _).mono ?_
    rintro e w1 ⟨rfl, hw1⟩
    have zw1 := hw1.size
    try simp at zw1
    have zw1_0 : w.heap.size < w1.heap.size := by omega
    have cw1_0 := fun o => hw1.cell (p := ⟨w.heap.size, o, none⟩) (by first | omega | (simp <;> omega))
    have fw1_0 := fun o => hw1.frozen (p := ⟨w.heap.size, o, none⟩) (by first | omega | (simp <;> omega))
    have zw1_1 : w.heap.size + 1 < w1.heap.size := by omega
    have cw1_1 := fun o => hw1.cell (p := ⟨w.heap.size + 1, o, none⟩) (by first | omega | (simp <;> omega))
    have fw1_1 := fun o => hw1.frozen (p := ⟨w.heap.size + 1, o, none⟩) (by first | omega | (simp <;> omega))
    go_wp2_with fail
    exact bodyPost_ret (v := .tuple #[.string ⟨#[]⟩, .agg #[.string ⟨#[]⟩, .int .i64 4]]) (by simp [results, Try.results14, go_sem, *]) rfl ⟨rfl, (by repeat' (first | exact Below.refl _ _ | (refine Below.drew ?_) | (refine Below.alloc ?_ (by first | omega | (simp <;> omega)) _) | (refine Below.setCell ?_ (by first | omega | (simp <;> omega)) _) | (refine Below.trans ?_ (Below.mono (by assumption) (by first | omega | (simp <;> omega))))))⟩
theorem bytes_ok (s : ByteArray) (n : Int) (w : World) (h0 : 0 ≤ n) (h1 : n ≤ (s.size : Int)) :
    Calls Try.prog 14 #[.agg #[.string s, .int .i64 0], .int .i64 n] w fun x w' => x = .returned (.tuple #[.string (s.extract 0 n.toNat), .agg #[.string (s.extract n.toNat s.size), .int .i64 0]]) ∧ Below w.heap.size w w' := by
  go_enter Try.func14, Try.ntmps14
  go_wp2_with fail
  go_region
  go_wp2_with fail
  exact bodyPost_ret (v := .tuple #[.string (s.extract 0 n.toNat), .agg #[.string (s.extract n.toNat s.size), .int .i64 0]]) (by simp [results, Try.results14, go_sem]) rfl ⟨rfl, (by repeat' (first | exact Below.refl _ _ | (refine Below.drew ?_) | (refine Below.alloc ?_ (by first | omega | (simp <;> omega)) _) | (refine Below.setCell ?_ (by first | omega | (simp <;> omega)) _) | (refine Below.trans ?_ (Below.mono (by assumption) (by first | omega | (simp <;> omega))))))⟩

end Go.Proofs.Ytahckijanjbagaa
