/- What the laws' last lines compare. -/
import Derived.Test.YtpnakbhbaghhgaaDoorCEx
import Derived.Test.YtpnakbhbaghhgaaDoorClassM3
set_option linter.unusedVariables false
namespace Go.Proofs.YtpnakbhbaghhgaaDoor
open Go.RowKit

theorem put_eq {A B : List Cl.Rg} {pa pb : ByteArray} {v : Bool} (ha : Cl.NF A) (hb : Cl.NF B) (h1 : (⟨(Cl.putL A).toArray⟩ : ByteArray) = pa) (h2 : (⟨(Cl.putL B).toArray⟩ : ByteArray) = pb) (hv : decide (A = B) = v) : (pa.toList == pb.toList) = v := by
  subst h1 h2 hv
  by_cases h : A = B
  · subst h; rw [bytes_eq, decide_eq_true rfl]
  · rw [bytes_ne, decide_eq_false h]
    intro he
    have h3 := congrArg (fun b : ByteArray => b.data.toList) he
    exact h (Cl.putL_inj ha.2 hb.2 h3)
theorem put_empty {A : List Cl.Rg} {pa : ByteArray} (h1 : (⟨(Cl.putL A).toArray⟩ : ByteArray) = pa) : pa.toList.isEmpty = decide (A = []) := by
  subst h1
  rw [ByteArray.toList_eq]
  show (Cl.putL A).isEmpty = _
  by_cases h : A = []
  · rw [decide_eq_true h, (Cl.putL_nil A).2 h]; rfl
  · rw [decide_eq_false h]
    exact List.isEmpty_eq_false_iff.2 fun e => h ((Cl.putL_nil A).1 e)
theorem has_union {a b : List Cl.Rg} {x : Int} {u v : Bool} (ha : Cl.NF a) (hb : Cl.NF b) (h1 : hasB a x = u) (h2 : hasB b x = v) : hasB (Cl.of (a ++ b)) x = (u || v) := by
  subst h1 h2
  rw [Bool.eq_iff_iff, Bool.or_eq_true, hasB_iff, hasB_iff, hasB_iff]
  exact Cl.mem_union ha hb x
theorem has_not {a : List Cl.Rg} {x : Int} {u : Bool} (ha : Cl.NF a) (h1 : hasB a x = u) (h0 : 0 ≤ x) (h2 : x ≤ 1114111) : hasB (Cl.nots a) x = !u := by
  subst h1
  have h := Cl.mem_nots ha x
  rw [← hasB_iff, ← hasB_iff] at h
  cases hu : hasB a x <;> rw [hu] at h <;> simp only [Bool.not_true, Bool.not_false]
  · exact h.2 ⟨h0, h2, by simp⟩
  · cases hv : hasB (Cl.nots a) x
    · rfl
    · exact absurd rfl (h.1 hv).2.2
theorem has_one {a b x : Int} : hasB [(a, b)] x = (decide (a ≤ x) && decide (x ≤ b)) := by simp [hasB]
theorem lv_nil (w : World) : Lv w none 0 [] := ⟨RowP.nil w none, .inl ⟨rfl, rfl⟩⟩
end Go.Proofs.YtpnakbhbaghhgaaDoor
