import Derived.Test.YtfibhhegfhikmaaGreatDoorJPTk
set_option linter.unusedSimpArgs false
set_option linter.unusedVariables false
/- What begins with a rune is added to the inner expression (written by gen_take.py). -/
set_option linter.unusedVariables false
namespace Go.Proofs.YtfibhhegfhikmaaGreatDoor
open Go.RowKit
open Sx (Nd)
set_option maxRecDepth 20000 in
set_option maxHeartbeats 4000000 in
theorem take_begin (base : Nat) (P : Nat → Prop) (p : Nat) (s : ByteArray) (b : Int) (cn : Nat) (g : Int) (v : Value) (y : Ent) (L : List Ent) (w : World) (t : List Int) (E : Env base P p s w) (hcn : cn ≤ 200) (hx : St base P p s b cn (94) t g v y L w) :
    Calls Tryz.prog 51 #[.pointer (some ⟨p, 0, none⟩), .int .i32 (94)] w (TakePost base P p s b cn ((94) :: t) g y L w) := by
  obtain ⟨hsk, ⟨a, hp, ha⟩, inv⟩ := hx
  obtain ⟨gi, cap, hv, hbg, hgl, hgp, hgc, _⟩ := hsk.inner
  subst hv
  have hL := (inv.small hcn).1
  rw [List.length_map] at hL
  have HP := Lib.hid hp
  have HI := Lib.hid (inner_any base p s b (a : Int) g gi L.length cap w hp (by omega))
  have HADD := Lib.hid (fun m => add_leaf E (hcn := hcn) (w1 := w.drewN m) hsk inv ((Kp.refl (Own1 p) w).drewN m) (k := 2) (c := []) (q := none) (capq := 0) (by decide) (fun k r hr => by simp at hr) (by decide) (rows_nil _ _ _))
  have HT := Lib.hid (fun vl w1 w' hs' hk1 hp1 hk' => leaf_post (b := b) (cn := cn) (vl := vl) (w1 := w1) (w' := w') (g := g) (x := 94) (t := t) E (a' := a) (t' := t) hsk inv rfl (by decide) (by decide) (by decide) rfl ⟨by decide, by decide⟩ hp1 ha hk1 hs' hk')
  clear hsk hp ha inv
  go_enter Tryz.func51, Tryz.ntmps51
  go_wp2_with (first | (go_at_call 53; refine HI.out.mono ?_; rintro e w1 ⟨rfl, m1, rfl⟩) | (go_at_call 83; refine (HADD.out m1).mono ?_; rintro e w2 ⟨rfl, vl2, hs2, hk2⟩; have HS2 := Lib.hid hs2; have HK2 := Lib.hid hk2; clear hs2 hk2))
  go_end0
  exact HT.out vl2 (w.drewN m1) _ HS2.out ((Kp.refl (Own1 p) w).drewN m1) (HP.out.drewN m1) HK2.out
set_option maxRecDepth 20000 in
set_option maxHeartbeats 4000000 in
theorem take_end (base : Nat) (P : Nat → Prop) (p : Nat) (s : ByteArray) (b : Int) (cn : Nat) (g : Int) (v : Value) (y : Ent) (L : List Ent) (w : World) (t : List Int) (E : Env base P p s w) (hcn : cn ≤ 200) (hx : St base P p s b cn (36) t g v y L w) :
    Calls Tryz.prog 51 #[.pointer (some ⟨p, 0, none⟩), .int .i32 (36)] w (TakePost base P p s b cn ((36) :: t) g y L w) := by
  obtain ⟨hsk, ⟨a, hp, ha⟩, inv⟩ := hx
  obtain ⟨gi, cap, hv, hbg, hgl, hgp, hgc, _⟩ := hsk.inner
  subst hv
  have hL := (inv.small hcn).1
  rw [List.length_map] at hL
  have HP := Lib.hid hp
  have HI := Lib.hid (inner_any base p s b (a : Int) g gi L.length cap w hp (by omega))
  have HADD := Lib.hid (fun m => add_leaf E (hcn := hcn) (w1 := w.drewN m) hsk inv ((Kp.refl (Own1 p) w).drewN m) (k := 3) (c := []) (q := none) (capq := 0) (by decide) (fun k r hr => by simp at hr) (by decide) (rows_nil _ _ _))
  have HT := Lib.hid (fun vl w1 w' hs' hk1 hp1 hk' => leaf_post (b := b) (cn := cn) (vl := vl) (w1 := w1) (w' := w') (g := g) (x := 36) (t := t) E (a' := a) (t' := t) hsk inv rfl (by decide) (by decide) (by decide) rfl ⟨by decide, by decide⟩ hp1 ha hk1 hs' hk')
  clear hsk hp ha inv
  go_enter Tryz.func51, Tryz.ntmps51
  go_wp2_with (first | (go_at_call 53; refine HI.out.mono ?_; rintro e w1 ⟨rfl, m1, rfl⟩) | (go_at_call 83; refine (HADD.out m1).mono ?_; rintro e w2 ⟨rfl, vl2, hs2, hk2⟩; have HS2 := Lib.hid hs2; have HK2 := Lib.hid hk2; clear hs2 hk2))
  go_end0
  exact HT.out vl2 (w.drewN m1) _ HS2.out ((Kp.refl (Own1 p) w).drewN m1) (HP.out.drewN m1) HK2.out
set_option maxRecDepth 20000 in
set_option maxHeartbeats 4000000 in
theorem take_dot (base : Nat) (P : Nat → Prop) (p : Nat) (s : ByteArray) (b : Int) (cn : Nat) (g : Int) (v : Value) (y : Ent) (L : List Ent) (w : World) (t : List Int) (E : Env base P p s w) (hcn : cn ≤ 200) (hx : St base P p s b cn (46) t g v y L w) :
    Calls Tryz.prog 51 #[.pointer (some ⟨p, 0, none⟩), .int .i32 (46)] w (TakePost base P p s b cn ((46) :: t) g y L w) := by
  obtain ⟨hsk, ⟨a, hp, ha⟩, inv⟩ := hx
  obtain ⟨gi, cap, hv, hbg, hgl, hgp, hgc, _⟩ := hsk.inner
  subst hv
  have hL := (inv.small hcn).1
  rw [List.length_map] at hL
  have HP := Lib.hid hp
  have HI := Lib.hid (inner_any base p s b (a : Int) g gi L.length cap w hp (by omega))
  have HADD := Lib.hid (fun w1 hk1 q capq hr => add_leaf E (hcn := hcn) (w1 := w1) hsk inv hk1 (k := 1) (c := Sx.dot) (q := q) (capq := capq) (by decide) (nf_rin' (Cl.nots_spec _).1) (by decide) hr)
  have HT := Lib.hid (fun vl w1 w' hs' hk1 hp1 hk' => leaf_post (b := b) (cn := cn) (vl := vl) (w1 := w1) (w' := w') (g := g) (x := 46) (t := t) E (a' := a) (t' := t) hsk inv rfl (by decide) (by decide) (by decide) rfl ⟨by decide, by decide⟩ hp1 ha hk1 hs' hk')
  clear hsk hp ha inv
  go_enter Tryz.func51, Tryz.ntmps51
  go_wp2_with (first | (go_at_call 53; refine HI.out.mono ?_; rintro e w1 ⟨rfl, m1, rfl⟩) | (go_at_call 84; refine (sdot_any _).mono ?_; rintro e w1 ⟨q, c, rfl, hq, hpt, hw1⟩; have HQ := Lib.hid (rows_from (w := w) hq (Nat.le_refl _)); have HW := Lib.hid hw1; have HK := Lib.hid (((Kp.refl (Own1 p) w).drewN m1).below hw1); clear hq hw1) | (go_at_call 83; refine (HADD.out _ HK.out q c HQ.out).mono ?_; rintro e w2 ⟨rfl, vl2, hs2, hk2⟩; have HS2 := Lib.hid hs2; have HK2 := Lib.hid hk2; clear hs2 hk2))
  go_end0
  exact HT.out vl2 _ _ HS2.out HK.out ((HP.out.drewN m1).below HW.out) HK2.out
set_option maxRecDepth 20000 in
set_option maxHeartbeats 4000000 in
theorem take_self (base : Nat) (P : Nat → Prop) (p : Nat) (s : ByteArray) (b : Int) (cn : Nat) (g : Int) (v : Value) (y : Ent) (L : List Ent) (w : World) (x : Int) (t : List Int) (E : Env base P p s w) (hcn : cn ≤ 200) (hx : St base P p s b cn (x) t g v y L w) (h0 : 0 ≤ x) (h1 : x ≤ 1114111) (n124 : (x == 124) = false) (n40 : (x == 40) = false) (n41 : (x == 41) = false) (n42 : (x == 42) = false) (n43 : (x == 43) = false) (n63 : (x == 63) = false) (n123 : (x == 123) = false) (n93 : (x == 93) = false) (n125 : (x == 125) = false) (n94 : (x == 94) = false) (n36 : (x == 36) = false) (n46 : (x == 46) = false) (n92 : (x == 92) = false) (n91 : (x == 91) = false) :
    Calls Tryz.prog 51 #[.pointer (some ⟨p, 0, none⟩), .int .i32 (x)] w (TakePost base P p s b cn ((x) :: t) g y L w) := by
  obtain ⟨hsk, ⟨a, hp, ha⟩, inv⟩ := hx
  obtain ⟨gi, cap, hv, hbg, hgl, hgp, hgc, _⟩ := hsk.inner
  subst hv
  have hL := (inv.small hcn).1
  rw [List.length_map] at hL
  have HP := Lib.hid hp
  have HI := Lib.hid (inner_any base p s b (a : Int) g gi L.length cap w hp (by omega))
  have hq0 : Sx.quant (x :: t) = none := quant_self (by simpa using n42) (by simpa using n43) (by simpa using n63) (by simpa using n123)
  have hlf : Sx.leaf x t g = .ok (.mk 1 [(x, x)] 0 0 false 0 []) t g := leaf_self h0 (by simpa using n46) (by simpa using n94) (by simpa using n36) (by simpa using n92) (by simpa using n91) (spec_self (by simpa using n124) (by simpa using n40) (by simpa using n41) (by simpa using n42) (by simpa using n43) (by simpa using n63) (by simpa using n123) (by simpa using n93) (by simpa using n125) (by simpa using n94) (by simpa using n36) (by simpa using n46) (by simpa using n92) (by simpa using n91))
  have HADD := Lib.hid (fun w1 hk1 q capq hr => add_leaf E (hcn := hcn) (w1 := w1) hsk inv hk1 (k := 1) (c := [(x, x)]) (q := q) (capq := capq) (by decide) (nf_rin' (Sx.nf_one ⟨h0, h1, Int.le_refl _⟩)) (by simp) hr)
  have HT := Lib.hid (fun vl w1 w' hs' hk1 hp1 hk' => leaf_post (b := b) (cn := cn) (vl := vl) (w1 := w1) (w' := w') (g := g) (x := x) (t := t)  E (a' := a) (t' := t) hsk inv hq0 (by simpa using n40) (by simpa using n41) (by simpa using n124) hlf ⟨by decide, by decide⟩ hp1 ha hk1 hs' hk')
  clear hsk hp ha inv hq0 hlf
  go_enter Tryz.func51, Tryz.ntmps51
  go_wp2_with (first | (go_at_call 53; refine HI.out.mono ?_; rintro e w1 ⟨rfl, m1, rfl⟩) | (go_at_call 87; refine (single_any x _ h0 h1).mono ?_; rintro e w1 ⟨q, c, rfl, hq, hpt, hw1⟩; have HQ := Lib.hid (rows_from (w := w) hq (Nat.le_refl _)); have HW := Lib.hid hw1; have HK := Lib.hid (((Kp.refl (Own1 p) w).drewN m1).below hw1); clear hq hw1) | (go_at_call 83; refine (HADD.out _ HK.out q c HQ.out).mono ?_; rintro e w2 ⟨rfl, vl2, hs2, hk2⟩; have HS2 := Lib.hid hs2; have HK2 := Lib.hid hk2; clear hs2 hk2))
  go_end0
  exact HT.out vl2 _ _ HS2.out HK.out ((HP.out.drewN m1).below HW.out) HK2.out
set_option maxRecDepth 20000 in
set_option maxHeartbeats 4000000 in
theorem take_esc (base : Nat) (P : Nat → Prop) (p : Nat) (s : ByteArray) (b : Int) (cn : Nat) (g : Int) (v : Value) (y : Ent) (L : List Ent) (w : World) (t : List Int) (E : Env base P p s w) (hcn : cn ≤ 200) (hx : St base P p s b cn (92) t g v y L w) :
    Calls Tryz.prog 51 #[.pointer (some ⟨p, 0, none⟩), .int .i32 (92)] w (TakePost base P p s b cn ((92) :: t) g y L w) := by
  obtain ⟨hsk, ⟨a, hp, ha⟩, inv⟩ := hx
  obtain ⟨gi, cap, hv, hbg, hgl, hgp, hgc, _⟩ := hsk.inner
  subst hv
  have hL := (inv.small hcn).1
  rw [List.length_map] at hL
  have HP := Lib.hid hp
  have HI := Lib.hid (inner_any base p s b (a : Int) g gi L.length cap w hp (by omega))
  have HES := Lib.hid (fun m => escape_any p s b g a _ (w.drewN m) t (hp.drewN m) E.hs ha)
  have HADD := Lib.hid (fun w1 hk1 k c q capq hk hc hcl hr => add_leaf E (hcn := hcn) (w1 := w1) hsk inv hk1 (k := k) (c := c) (q := q) (capq := capq) hk hc hcl hr)
  have HT := Lib.hid (fun vl w1 w' k c t' a' hs' hk1 hk' hlf hk hp ha => leaf_post (b := b) (cn := cn) (vl := vl) (w1 := w1) (w' := w') (g := g) (x := 92) (t := t) (k := k) (c := c) E (a' := a') (t' := t') hsk inv rfl (by decide) (by decide) (by decide) hlf hk hp ha hk1 hs' hk')
  have HB := Lib.hid (fun w' hlf hk => leaf_bad_post (P := P) (base := base) (b := b) (cn := cn) (w' := w') (g := g) (x := 92) (t := t) E inv rfl (by decide) (by decide) (by decide) hlf hk)
  clear hsk hp ha inv
  go_enter Tryz.func51, Tryz.ntmps51
  go_wp2_with (first | (go_at_call 53; refine HI.out.mono ?_; rintro e w1 ⟨rfl, m1, rfl⟩))
  refine (HES.out m1).mono ?_
  rintro e w1 (⟨y2, t', a', k, cl, u, ht, hesc, rfl, ⟨q, c, rfl, hr, hpt⟩, hz⟩ | ⟨hno, rfl, hk⟩)
  · subst ht
    obtain ⟨hlf, hk5, hrin, hlen⟩ := esc_leaf (g := g) (t := t') hesc
    have HLF := Lib.hid hlf
    have HK := Lib.hid (((Kp.refl (Own1 p) w).drewN m1).trans hz.kp)
    have HZ := Lib.hid hz
    have HQ := Lib.hid (And.intro (rows_from (w := w) hr (Nat.le_refl _)) hrin)
    clear hz hr hrin hlf
    unfold ndv
    go_wp2_with (go_at_call 83; refine (HADD.out _ HK.out k cl q c hk5 HQ.out.2 hlen HQ.out.1).mono ?_; rintro e w2 ⟨rfl, vl2, hs2, hk2⟩; have HS2 := Lib.hid hs2; have HK2 := Lib.hid hk2; clear hs2 hk2)
    go_end0
    exact HT.out vl2 _ _ k cl t' a' HS2.out HK.out HK2.out HLF.out hk5 HZ.out.pb HZ.out.at'
  · have HLB := Lib.hid (esc_leaf_bad (g := g) hno)
    have HK := Lib.hid (((Kp.refl (Own1 p) w).drewN m1).trans hk)
    clear hno hk
    unfold pan
    go_wp2_with fail
    exact ⟨rfl, HB.out _ HLB.out HK.out⟩
set_option maxRecDepth 20000 in
set_option maxHeartbeats 4000000 in
theorem take_cls (base : Nat) (P : Nat → Prop) (p : Nat) (s : ByteArray) (b : Int) (cn : Nat) (g : Int) (v : Value) (y : Ent) (L : List Ent) (w : World) (t : List Int) (E : Env base P p s w) (hcn : cn ≤ 200) (hx : St base P p s b cn (91) t g v y L w) :
    Calls Tryz.prog 51 #[.pointer (some ⟨p, 0, none⟩), .int .i32 (91)] w (TakePost base P p s b cn ((91) :: t) g y L w) := by
  obtain ⟨hsk, ⟨a, hp, ha⟩, inv⟩ := hx
  obtain ⟨gi, cap, hv, hbg, hgl, hgp, hgc, _⟩ := hsk.inner
  subst hv
  have hL := (inv.small hcn).1
  rw [List.length_map] at hL
  have HP := Lib.hid hp
  have HI := Lib.hid (inner_any base p s b (a : Int) g gi L.length cap w hp (by omega))
  have HES := Lib.hid (fun m => pclass_any p s b g a _ (w.drewN m) t (hp.drewN m) E.hs ha)
  have HADD := Lib.hid (fun w1 hk1 c q capq hc hcl hr => add_leaf E (hcn := hcn) (w1 := w1) hsk inv hk1 (k := 1) (c := c) (q := q) (capq := capq) (by decide) hc hcl hr)
  have HT := Lib.hid (fun vl w1 w' c t' a' hs' hk1 hk' hlf hp1 ha => leaf_post (b := b) (cn := cn) (vl := vl) (w1 := w1) (w' := w') (g := g) (x := 91) (t := t) (k := 1) (c := c) E (a' := a') (t' := t') hsk inv rfl (by decide) (by decide) (by decide) hlf ⟨by decide, by decide⟩ hp1 ha hk1 hs' hk')
  have HB := Lib.hid (fun w' hlf hk => leaf_bad_post (P := P) (base := base) (b := b) (cn := cn) (w' := w') (g := g) (x := 91) (t := t) E inv rfl (by decide) (by decide) (by decide) hlf hk)
  clear hsk hp ha inv
  go_enter Tryz.func51, Tryz.ntmps51
  go_wp2_with (first | (go_at_call 53; refine HI.out.mono ?_; rintro e w1 ⟨rfl, m1, rfl⟩))
  refine (HES.out m1).mono ?_
  rintro e w1 (⟨cl, t', a', q, c, hcls, rfl, hr, hpt, hz⟩ | ⟨hno, rfl, hk⟩)
  · obtain ⟨hlf, hrin, hlen⟩ := cls_leaf (g := g) hcls
    have HLF := Lib.hid hlf
    have HK := Lib.hid (((Kp.refl (Own1 p) w).drewN m1).trans hz.kp)
    have HZ := Lib.hid hz
    have HQ := Lib.hid (And.intro (rows_from (w := w) hr (Nat.le_refl _)) hrin)
    clear hz hr hrin hlf hcls
    go_wp2_with (go_at_call 83; refine (HADD.out _ HK.out cl q c HQ.out.2 hlen HQ.out.1).mono ?_; rintro e w2 ⟨rfl, vl2, hs2, hk2⟩; have HS2 := Lib.hid hs2; have HK2 := Lib.hid hk2; clear hs2 hk2)
    go_end0
    exact HT.out vl2 _ _ cl t' a' HS2.out HK.out HK2.out HLF.out HZ.out.pb HZ.out.at'
  · have HLB := Lib.hid (cls_leaf_bad (g := g) hno)
    have HK := Lib.hid (((Kp.refl (Own1 p) w).drewN m1).trans hk)
    clear hno hk
    unfold pan
    go_wp2_with fail
    exact ⟨rfl, HB.out _ HLB.out HK.out⟩
set_option maxRecDepth 20000 in
set_option maxHeartbeats 4000000 in
theorem take_sq (base : Nat) (P : Nat → Prop) (p : Nat) (s : ByteArray) (b : Int) (cn : Nat) (g : Int) (v : Value) (y : Ent) (L : List Ent) (w : World) (t : List Int) (E : Env base P p s w) (hcn : cn ≤ 200) (hx : St base P p s b cn (93) t g v y L w) :
    Calls Tryz.prog 51 #[.pointer (some ⟨p, 0, none⟩), .int .i32 (93)] w (TakePost base P p s b cn ((93) :: t) g y L w) := by
  obtain ⟨hsk, ⟨a, hp, ha⟩, inv⟩ := hx
  have HW := Lib.hid (wrong_any p s b (a : Int) g v w hp)
  have HB := Lib.hid (leaf_bad_post (P := P) (base := base) (b := b) (cn := cn) (w' := w) (g := g) (x := 93) (t := t) E inv rfl (by decide) (by decide) (by decide) rfl (Kp.refl _ _))
  clear hsk hp ha inv
  go_enter Tryz.func51, Tryz.ntmps51
  go_wp2_with (go_at_call 52; refine HW.out.mono ?_; rintro e w1 ⟨rfl, rfl⟩; unfold pan)
  exact ⟨rfl, HB.out⟩
set_option maxRecDepth 20000 in
set_option maxHeartbeats 4000000 in
theorem take_cu (base : Nat) (P : Nat → Prop) (p : Nat) (s : ByteArray) (b : Int) (cn : Nat) (g : Int) (v : Value) (y : Ent) (L : List Ent) (w : World) (t : List Int) (E : Env base P p s w) (hcn : cn ≤ 200) (hx : St base P p s b cn (125) t g v y L w) :
    Calls Tryz.prog 51 #[.pointer (some ⟨p, 0, none⟩), .int .i32 (125)] w (TakePost base P p s b cn ((125) :: t) g y L w) := by
  obtain ⟨hsk, ⟨a, hp, ha⟩, inv⟩ := hx
  have HW := Lib.hid (wrong_any p s b (a : Int) g v w hp)
  have HB := Lib.hid (leaf_bad_post (P := P) (base := base) (b := b) (cn := cn) (w' := w) (g := g) (x := 125) (t := t) E inv rfl (by decide) (by decide) (by decide) rfl (Kp.refl _ _))
  clear hsk hp ha inv
  go_enter Tryz.func51, Tryz.ntmps51
  go_wp2_with (go_at_call 52; refine HW.out.mono ?_; rintro e w1 ⟨rfl, rfl⟩; unfold pan)
  exact ⟨rfl, HB.out⟩
set_option maxRecDepth 20000 in
set_option maxHeartbeats 4000000 in
theorem take_bar (base : Nat) (P : Nat → Prop) (p : Nat) (s : ByteArray) (b : Int) (cn : Nat) (g : Int) (v : Value) (y : Ent) (L : List Ent) (w : World) (t : List Int) (E : Env base P p s w) (hcn : cn ≤ 200) (hx : St base P p s b cn (124) t g v y L w) :
    Calls Tryz.prog 51 #[.pointer (some ⟨p, 0, none⟩), .int .i32 (124)] w (TakePost base P p s b cn ((124) :: t) g y L w) := by
  obtain ⟨hsk, ⟨a, hp, ha⟩, inv⟩ := hx
  obtain ⟨gi, cap, hv, hbg, hgl, hgp, hgc, _⟩ := hsk.inner
  subst hv
  have hL := (inv.small hcn).1
  rw [List.length_map] at hL
  have HP := Lib.hid hp
  have HI := Lib.hid (inner_any base p s b (a : Int) g gi L.length cap w hp (by omega))
  have HTU := Lib.hid (fun m => turn_at E (hcn := hcn) hsk inv m)
  have HT := Lib.hid (fun m va w' hs' hk' => bar_post (b := b) (cn := cn) (va := va) (w' := w') (t := t) E hsk inv hp ha (m := m) hs' hk')
  clear hsk hp ha inv
  go_enter Tryz.func51, Tryz.ntmps51
  go_wp2_with (first | (go_at_call 53; refine HI.out.mono ?_; rintro e w1 ⟨rfl, m1, rfl⟩) | (go_at_call 78; refine (HTU.out m1).mono ?_; rintro e w2 ⟨rfl, va2, hs2, hk2⟩; have HS2 := Lib.hid hs2; have HK2 := Lib.hid hk2; clear hs2 hk2))
  go_end0
  exact HT.out m1 va2 _ HS2.out HK2.out
set_option maxRecDepth 20000 in
set_option maxHeartbeats 4000000 in
theorem take_star (base : Nat) (P : Nat → Prop) (p : Nat) (s : ByteArray) (b : Int) (cn : Nat) (g : Int) (v : Value) (y : Ent) (L : List Ent) (w : World) (t : List Int) (E : Env base P p s w) (hcn : cn ≤ 200) (hx : St base P p s b cn (42) t g v y L w) :
    Calls Tryz.prog 51 #[.pointer (some ⟨p, 0, none⟩), .int .i32 (42)] w (TakePost base P p s b cn ((42) :: t) g y L w) := by
  have HR := Lib.hid (rep_at (l := 42 :: t) (mn := 0) (mx := -1) (t2 := t) E hcn hx.sk hx.pb hx.inv (by simp) rfl (by decide) (by decide))
  clear hx
  go_enter Tryz.func51, Tryz.ntmps51
  go_wp2_with fail
  refine HR.out.mono ?_
  rintro e w1 (⟨rfl, h⟩ | ⟨k, rfl, h⟩)
  · have H := Lib.hid h
    clear h
    go_wp2_with fail
    go_end0
    exact .inl ⟨rfl, H.out⟩
  · have H := Lib.hid h
    clear h
    unfold pan
    go_wp2_with fail
    exact ⟨rfl, .inr ⟨k, rfl, H.out⟩⟩
set_option maxRecDepth 20000 in
set_option maxHeartbeats 4000000 in
theorem take_plus (base : Nat) (P : Nat → Prop) (p : Nat) (s : ByteArray) (b : Int) (cn : Nat) (g : Int) (v : Value) (y : Ent) (L : List Ent) (w : World) (t : List Int) (E : Env base P p s w) (hcn : cn ≤ 200) (hx : St base P p s b cn (43) t g v y L w) :
    Calls Tryz.prog 51 #[.pointer (some ⟨p, 0, none⟩), .int .i32 (43)] w (TakePost base P p s b cn ((43) :: t) g y L w) := by
  have HR := Lib.hid (rep_at (l := 43 :: t) (mn := 1) (mx := -1) (t2 := t) E hcn hx.sk hx.pb hx.inv (by simp) rfl (by decide) (by decide))
  clear hx
  go_enter Tryz.func51, Tryz.ntmps51
  go_wp2_with fail
  refine HR.out.mono ?_
  rintro e w1 (⟨rfl, h⟩ | ⟨k, rfl, h⟩)
  · have H := Lib.hid h
    clear h
    go_wp2_with fail
    go_end0
    exact .inl ⟨rfl, H.out⟩
  · have H := Lib.hid h
    clear h
    unfold pan
    go_wp2_with fail
    exact ⟨rfl, .inr ⟨k, rfl, H.out⟩⟩
set_option maxRecDepth 20000 in
set_option maxHeartbeats 4000000 in
theorem take_opt (base : Nat) (P : Nat → Prop) (p : Nat) (s : ByteArray) (b : Int) (cn : Nat) (g : Int) (v : Value) (y : Ent) (L : List Ent) (w : World) (t : List Int) (E : Env base P p s w) (hcn : cn ≤ 200) (hx : St base P p s b cn (63) t g v y L w) :
    Calls Tryz.prog 51 #[.pointer (some ⟨p, 0, none⟩), .int .i32 (63)] w (TakePost base P p s b cn ((63) :: t) g y L w) := by
  have HR := Lib.hid (rep_at (l := 63 :: t) (mn := 0) (mx := 1) (t2 := t) E hcn hx.sk hx.pb hx.inv (by simp) rfl (by decide) (by decide))
  clear hx
  go_enter Tryz.func51, Tryz.ntmps51
  go_wp2_with fail
  refine HR.out.mono ?_
  rintro e w1 (⟨rfl, h⟩ | ⟨k, rfl, h⟩)
  · have H := Lib.hid h
    clear h
    go_wp2_with fail
    go_end0
    exact .inl ⟨rfl, H.out⟩
  · have H := Lib.hid h
    clear h
    unfold pan
    go_wp2_with fail
    exact ⟨rfl, .inr ⟨k, rfl, H.out⟩⟩
set_option maxRecDepth 20000 in
set_option maxHeartbeats 4000000 in
theorem take_cur (base : Nat) (P : Nat → Prop) (p : Nat) (s : ByteArray) (b : Int) (cn : Nat) (g : Int) (v : Value) (y : Ent) (L : List Ent) (w : World) (t : List Int) (E : Env base P p s w) (hcn : cn ≤ 200) (hx : St base P p s b cn (123) t g v y L w) :
    Calls Tryz.prog 51 #[.pointer (some ⟨p, 0, none⟩), .int .i32 (123)] w (TakePost base P p s b cn ((123) :: t) g y L w) := by
  have HTM := Lib.hid (times_at (t := t) E hx.sk hx.pb)
  have HB := Lib.hid (fun w' hq hk => times_bad_post (P := P) (base := base) (b := b) (cn := cn) (w' := w') (g := g) (t := t) E hx.inv hq hk)
  have HR := Lib.hid (fun w1 mn mx t2 hk1 hp1 hq h1 h2 ht => rep_at2 (b := b) (l := 123 :: t) (w := w) (w1 := w1) (mn := mn) (mx := mx) (t2 := t2) E hcn hx.sk hk1 hp1 hx.inv ht hq h1 h2)
  clear hx
  go_enter Tryz.func51, Tryz.ntmps51
  go_wp2_with fail
  refine HTM.out.mono ?_
  rintro e w1 (⟨mn, mx, t2, a2, hb, h0, h1, h2, h3, rfl, hz⟩ | ⟨hno, rfl, hk⟩)
  · have HRR := Lib.hid (HR.out w1 mn mx t2 hz.kp ⟨a2, hz.pb, hz.at'⟩ (show Sx.quant (123 :: t) = some (some (mn, mx, t2)) from (show some (Sx.braces t) = _ by rw [hb])) ⟨h0, h1⟩ ⟨h2, h3⟩ (by have := Sx.braces_len hb; simp; omega))
    clear hz hb HR HB
    go_wp2_with fail
    refine HRR.out.mono ?_
    rintro e w2 (⟨rfl, h⟩ | ⟨k, rfl, h⟩)
    · have H := Lib.hid h
      clear h
      go_wp2_with fail
      go_end0
      exact .inl ⟨rfl, H.out⟩
    · have H := Lib.hid h
      clear h
      unfold pan
      go_wp2_with fail
      exact ⟨rfl, .inr ⟨k, rfl, H.out⟩⟩
  · have HBB := Lib.hid (HB.out w1 (show Sx.quant (123 :: t) = some none from (show some (Sx.braces t) = _ by rw [hno])) hk)
    clear hno hk HB HR
    unfold pan
    go_wp2_with fail
    exact ⟨rfl, HBB.out⟩
set_option maxRecDepth 20000 in
set_option maxHeartbeats 4000000 in
theorem take_open (base : Nat) (P : Nat → Prop) (p : Nat) (s : ByteArray) (b : Int) (cn : Nat) (g : Int) (v : Value) (y : Ent) (L : List Ent) (w : World) (t : List Int) (E : Env base P p s w) (hcn : cn ≤ 200) (hx : St base P p s b cn (40) t g v y L w) :
    Calls Tryz.prog 51 #[.pointer (some ⟨p, 0, none⟩), .int .i32 (40)] w (TakePost base P p s b cn ((40) :: t) g y L w) := by
  have HO := Lib.hid (enter_at E hcn hx)
  clear hx
  go_enter Tryz.func51, Tryz.ntmps51
  go_wp2_with fail
  refine HO.out.mono ?_
  rintro e w1 (⟨rfl, h⟩ | ⟨k, rfl, h⟩)
  · have H := Lib.hid h
    clear h
    go_wp2_with fail
    go_end0
    exact .inl ⟨rfl, H.out⟩
  · have H := Lib.hid h
    clear h
    unfold pan
    go_wp2_with fail
    exact ⟨rfl, .inr ⟨k, rfl, H.out⟩⟩
set_option maxRecDepth 20000 in
set_option maxHeartbeats 4000000 in
theorem take_close (base : Nat) (P : Nat → Prop) (p : Nat) (s : ByteArray) (b : Int) (cn : Nat) (g : Int) (v : Value) (y : Ent) (L : List Ent) (w : World) (t : List Int) (E : Env base P p s w) (hcn : cn ≤ 200) (hx : St base P p s b cn (41) t g v y L w) :
    Calls Tryz.prog 51 #[.pointer (some ⟨p, 0, none⟩), .int .i32 (41)] w (TakePost base P p s b cn ((41) :: t) g y L w) := by
  have HO := Lib.hid (leave_at E hcn hx)
  clear hx
  go_enter Tryz.func51, Tryz.ntmps51
  go_wp2_with fail
  refine HO.out.mono ?_
  rintro e w1 (⟨rfl, h⟩ | ⟨k, rfl, h⟩)
  · have H := Lib.hid h
    clear h
    go_wp2_with fail
    go_end0
    exact .inl ⟨rfl, H.out⟩
  · have H := Lib.hid h
    clear h
    unfold pan
    go_wp2_with fail
    exact ⟨rfl, .inr ⟨k, rfl, H.out⟩⟩
theorem take_any (base : Nat) (P : Nat → Prop) (p : Nat) (s : ByteArray) (b : Int) (cn : Nat) (g : Int) (v : Value) (y : Ent) (L : List Ent) (w : World) (x : Int) (t : List Int) (E : Env base P p s w) (hcn : cn ≤ 200) (hx : St base P p s b cn x t g v y L w) (h0 : 0 ≤ x) (h1 : x ≤ 1114111) :
    Calls Tryz.prog 51 #[.pointer (some ⟨p, 0, none⟩), .int .i32 x] w (TakePost base P p s b cn (x :: t) g y L w) := by
  by_cases e124 : x = 124
  · subst e124; exact take_bar base P p s b cn g v y L w t E hcn hx
  by_cases e40 : x = 40
  · subst e40; exact take_open base P p s b cn g v y L w t E hcn hx
  by_cases e41 : x = 41
  · subst e41; exact take_close base P p s b cn g v y L w t E hcn hx
  by_cases e42 : x = 42
  · subst e42; exact take_star base P p s b cn g v y L w t E hcn hx
  by_cases e43 : x = 43
  · subst e43; exact take_plus base P p s b cn g v y L w t E hcn hx
  by_cases e63 : x = 63
  · subst e63; exact take_opt base P p s b cn g v y L w t E hcn hx
  by_cases e123 : x = 123
  · subst e123; exact take_cur base P p s b cn g v y L w t E hcn hx
  by_cases e93 : x = 93
  · subst e93; exact take_sq base P p s b cn g v y L w t E hcn hx
  by_cases e125 : x = 125
  · subst e125; exact take_cu base P p s b cn g v y L w t E hcn hx
  by_cases e94 : x = 94
  · subst e94; exact take_begin base P p s b cn g v y L w t E hcn hx
  by_cases e36 : x = 36
  · subst e36; exact take_end base P p s b cn g v y L w t E hcn hx
  by_cases e46 : x = 46
  · subst e46; exact take_dot base P p s b cn g v y L w t E hcn hx
  by_cases e92 : x = 92
  · subst e92; exact take_esc base P p s b cn g v y L w t E hcn hx
  by_cases e91 : x = 91
  · subst e91; exact take_cls base P p s b cn g v y L w t E hcn hx
  have f : ∀ z, x ≠ z → (x == z) = false := fun z hz => beq_eq_false_iff_ne.2 hz
  exact take_self base P p s b cn g v y L w x t E hcn hx h0 h1 (f _ e124) (f _ e40) (f _ e41) (f _ e42) (f _ e43) (f _ e63) (f _ e123) (f _ e93) (f _ e125) (f _ e94) (f _ e36) (f _ e46) (f _ e92) (f _ e91)
end Go.Proofs.YtfibhhegfhikmaaGreatDoor
