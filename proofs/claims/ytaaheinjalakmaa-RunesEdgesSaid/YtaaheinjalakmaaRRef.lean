/- The document's own answer: a rune alone. -/
import Derived.Test.YtaaheinjalakmaaRAll
import Derived.Lib.SlBytesConst
set_option linter.unusedVariables false
namespace Go.Proofs.Ytaaheinjalakmaa
open Go.RowKit

set_option maxHeartbeats 800000 in
theorem rright_any (r : Int) (w : World) : Calls Try.prog 21 #[.int .i32 r] w fun e w' => e = .returned (.bool (Rn.rightB r)) ∧ w = w' := by
  rcases right_cases r with ⟨h, hv⟩ | ⟨⟨h, h'⟩, hv⟩ | ⟨⟨h, h'⟩, hv⟩ | ⟨⟨h, h'⟩, hv⟩ | ⟨h, hv⟩
  all_goals
    have HV := Lib.hid hv
    clear hv
    go_enter Try.func21, Try.ntmps21
    go_wp2_with fail
    go_ret
    refine ⟨ret_bool ?_, rfl⟩
    rw [HV.out] <;> (first | rfl | (simp; done) | (simp; omega))
set_option maxHeartbeats 1600000 in
theorem rword_any (r : Int) (w : World) : Calls Try.prog 25 #[.int .i32 r] w fun e w' => e = .returned (.bool (Rn.wordB r)) ∧ w = w' := by
  rcases word_cases r with ⟨h, hv⟩ | ⟨⟨h, h'⟩, hv⟩ | ⟨⟨h, h'⟩, hv⟩ | ⟨⟨h, h'⟩, hv⟩ | ⟨⟨h, h'⟩, hv⟩ | ⟨rfl, hv⟩ | ⟨⟨h, h'⟩, hv⟩ | ⟨⟨h, h'⟩, hv⟩ | ⟨h, hv⟩
  all_goals
    have HV := Lib.hid hv
    clear hv
    try have hne : (r == 95) = false := by simp; omega
    go_enter Try.func25, Try.ntmps25
    go_wp2_with fail
    go_ret
    refine ⟨ret_bool ?_, rfl⟩
    rw [HV.out] <;> (first | rfl | (simp; done) | (simp; omega))
theorem lit_str (w : World) (zs : List Int) (hz : ∀ z ∈ zs, 0 ≤ z ∧ z ≤ 255) :
    (convert 22 9 (.slice (some ⟨w.heap.size, 0, none⟩) zs.length zs.length)).run Try.prog (w.alloc (.cells (zs.map (Value.int .u8)).toArray 5)) = .ok (.string ⟨(zs.map fun z => UInt8.ofNat z.toNat).toArray⟩) (w.alloc (.cells (zs.map (Value.int .u8)).toArray 5)) := by
  refine string_spec _ _ _ 5 _ _ _ _ Try.underlying22 Try.underlying5 Try.underlying9 (fun j hj => ?_) (by simp)
  rw [Nat.zero_add, World.cell?_alloc_at _ _ _ _ rfl]
  have hj' : j < zs.length := by simpa using hj
  have := hz _ (List.getElem_mem hj')
  simp [hj']
  omega
theorem rput_any (r : Int) (w : World) : Calls Try.prog 23 #[.int .i32 r] w fun e w' => e = .returned (.string (Utf8.encode r)) ∧ Below w.heap.size w w' := by
  by_cases hr : Rn.rightB r = true
  · have hb := (Rn.right_iff r).1 hr
    rcases (show (0 ≤ r ∧ r < 128) ∨ (128 ≤ r ∧ r < 2048) ∨ (2048 ≤ r ∧ r < 65536) ∨ (65536 ≤ r ∧ r < 1114112) by omega) with ⟨h0, h1⟩ | ⟨h0, h1⟩ | ⟨h0, h1⟩ | ⟨h0, h1⟩
    · have he := Lib.hid (Rn.enc1 hr h0 h1)
      have hc := lit_str w [r] (by simp; omega)
      simp only [List.map_cons, List.map_nil, List.length_cons, List.length_nil] at hc
      clear hb
      go_enter Try.func23, Try.ntmps23
      go_wp2_with fail
      refine (rright_any _ _).mono ?_
      rintro e w' ⟨rfl, rfl⟩
      go_wp2_with fail
      go_ret
      exact ⟨by rw [he.out]; rfl, (by repeat' (first | exact Below.refl _ _ | (refine Below.drew ?_) | (refine bdrewN ?_) | (refine Below.alloc ?_ (by first | omega | (simp <;> omega)) _) | (refine Below.setCell ?_ (by first | omega | (simp <;> omega)) _) | (refine Below.trans ?_ (Below.mono (by assumption) (by first | omega | (simp <;> omega))))))⟩
    · have he := Lib.hid (Rn.enc2 hr h0 h1)
      have hc := lit_str w [192 + r / 64, 128 + r % 64] (by simp; omega)
      simp only [List.map_cons, List.map_nil, List.length_cons, List.length_nil] at hc
      clear hb
      go_enter Try.func23, Try.ntmps23
      go_wp2_with fail
      refine (rright_any _ _).mono ?_
      rintro e w' ⟨rfl, rfl⟩
      go_wp2_with fail
      go_ret
      exact ⟨by rw [he.out]; rfl, (by repeat' (first | exact Below.refl _ _ | (refine Below.drew ?_) | (refine bdrewN ?_) | (refine Below.alloc ?_ (by first | omega | (simp <;> omega)) _) | (refine Below.setCell ?_ (by first | omega | (simp <;> omega)) _) | (refine Below.trans ?_ (Below.mono (by assumption) (by first | omega | (simp <;> omega))))))⟩
    · have he := Lib.hid (Rn.enc3 hr h0 h1)
      have hc := lit_str w [224 + r / 4096, 128 + r / 64 % 64, 128 + r % 64] (by simp; omega)
      simp only [List.map_cons, List.map_nil, List.length_cons, List.length_nil] at hc
      clear hb
      go_enter Try.func23, Try.ntmps23
      go_wp2_with fail
      refine (rright_any _ _).mono ?_
      rintro e w' ⟨rfl, rfl⟩
      go_wp2_with fail
      go_ret
      exact ⟨by rw [he.out]; rfl, (by repeat' (first | exact Below.refl _ _ | (refine Below.drew ?_) | (refine bdrewN ?_) | (refine Below.alloc ?_ (by first | omega | (simp <;> omega)) _) | (refine Below.setCell ?_ (by first | omega | (simp <;> omega)) _) | (refine Below.trans ?_ (Below.mono (by assumption) (by first | omega | (simp <;> omega))))))⟩
    · have he := Lib.hid (Rn.enc4 hr h0)
      have hc := lit_str w [240 + r / 262144, 128 + r / 4096 % 64, 128 + r / 64 % 64, 128 + r % 64] (by simp; omega)
      simp only [List.map_cons, List.map_nil, List.length_cons, List.length_nil] at hc
      clear hb
      go_enter Try.func23, Try.ntmps23
      go_wp2_with fail
      refine (rright_any _ _).mono ?_
      rintro e w' ⟨rfl, rfl⟩
      go_wp2_with fail
      go_ret
      exact ⟨by rw [he.out]; rfl, (by repeat' (first | exact Below.refl _ _ | (refine Below.drew ?_) | (refine bdrewN ?_) | (refine Below.alloc ?_ (by first | omega | (simp <;> omega)) _) | (refine Below.setCell ?_ (by first | omega | (simp <;> omega)) _) | (refine Below.trans ?_ (Below.mono (by assumption) (by first | omega | (simp <;> omega))))))⟩
  · have hr' : Rn.rightB r = false := by simpa using hr
    have he := Lib.hid (Rn.enc_bad hr')
    have hc := lit_str w [239, 191, 189] (by decide)
    simp only [List.map_cons, List.map_nil, List.length_cons, List.length_nil] at hc
    clear hr
    go_enter Try.func23, Try.ntmps23
    go_wp2_with fail
    refine (rright_any _ _).mono ?_
    rintro e w' ⟨rfl, rfl⟩
    go_wp2_with fail
    go_ret
    exact ⟨by rw [he.out]; rfl, (by repeat' (first | exact Below.refl _ _ | (refine Below.drew ?_) | (refine bdrewN ?_) | (refine Below.alloc ?_ (by first | omega | (simp <;> omega)) _) | (refine Below.setCell ?_ (by first | omega | (simp <;> omega)) _) | (refine Below.trans ?_ (Below.mono (by assumption) (by first | omega | (simp <;> omega))))))⟩
end Go.Proofs.Ytaaheinjalakmaa
