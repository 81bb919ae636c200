import Derived.Test.YtdoapojmenojoaaGreatDoorJSmA
import Derived.StillTailTactics
import Derived.Laws.CopyRow
import Derived.Laws.CopyOwn
import Derived.Laws.OwnMore
import Derived.Lib.SlBuf
import Derived.Deep.RegionLaw
set_option linter.unusedSimpArgs false
set_option linter.unusedVariables false
section
/- So often the same: the library's own Repeat, of one node. -/
set_option linter.unusedVariables false
namespace Go.Proofs.YtdoapojmenojoaaGreatDoor
open Go.RowKit
open Sx (Nd)

set_option maxRecDepth 20000 in
set_option maxHeartbeats 4000000 in
theorem mul64_one (y : Int) (w : World) (h0 : 0 ≤ y) (h1 : y ≤ 20) : Calls Tryz.prog 212 #[.int .u64 1, .int .u64 y] w fun e w' => e = .returned (.tuple #[.int .u64 0, .int .u64 y]) ∧ w' = w := by
  rcases (show y = 0 ∨ y = 1 ∨ y = 2 ∨ y = 3 ∨ y = 4 ∨ y = 5 ∨ y = 6 ∨ y = 7 ∨ y = 8 ∨ y = 9 ∨ y = 10 ∨ y = 11 ∨ y = 12 ∨ y = 13 ∨ y = 14 ∨ y = 15 ∨ y = 16 ∨ y = 17 ∨ y = 18 ∨ y = 19 ∨ y = 20 by omega) with rfl | rfl | rfl | rfl | rfl | rfl | rfl | rfl | rfl | rfl | rfl | rfl | rfl | rfl | rfl | rfl | rfl | rfl | rfl | rfl | rfl
  · go_enter Tryz.func212, Tryz.ntmps212
    go_wp2_with fail
    exact bodyPost_ret (v := .tuple #[.int .u64 0, .int .u64 0]) (by simp [results, Tryz.results212, go_sem, *]; first | decide | decide +kernel | rfl) rfl ⟨rfl, rfl⟩
  · go_enter Tryz.func212, Tryz.ntmps212
    go_wp2_with fail
    exact bodyPost_ret (v := .tuple #[.int .u64 0, .int .u64 1]) (by simp [results, Tryz.results212, go_sem, *]; first | decide | decide +kernel | rfl) rfl ⟨rfl, rfl⟩
  · go_enter Tryz.func212, Tryz.ntmps212
    go_wp2_with fail
    exact bodyPost_ret (v := .tuple #[.int .u64 0, .int .u64 2]) (by simp [results, Tryz.results212, go_sem, *]; first | decide | decide +kernel | rfl) rfl ⟨rfl, rfl⟩
  · go_enter Tryz.func212, Tryz.ntmps212
    go_wp2_with fail
    exact bodyPost_ret (v := .tuple #[.int .u64 0, .int .u64 3]) (by simp [results, Tryz.results212, go_sem, *]; first | decide | decide +kernel | rfl) rfl ⟨rfl, rfl⟩
  · go_enter Tryz.func212, Tryz.ntmps212
    go_wp2_with fail
    exact bodyPost_ret (v := .tuple #[.int .u64 0, .int .u64 4]) (by simp [results, Tryz.results212, go_sem, *]; first | decide | decide +kernel | rfl) rfl ⟨rfl, rfl⟩
  · go_enter Tryz.func212, Tryz.ntmps212
    go_wp2_with fail
    exact bodyPost_ret (v := .tuple #[.int .u64 0, .int .u64 5]) (by simp [results, Tryz.results212, go_sem, *]; first | decide | decide +kernel | rfl) rfl ⟨rfl, rfl⟩
  · go_enter Tryz.func212, Tryz.ntmps212
    go_wp2_with fail
    exact bodyPost_ret (v := .tuple #[.int .u64 0, .int .u64 6]) (by simp [results, Tryz.results212, go_sem, *]; first | decide | decide +kernel | rfl) rfl ⟨rfl, rfl⟩
  · go_enter Tryz.func212, Tryz.ntmps212
    go_wp2_with fail
    exact bodyPost_ret (v := .tuple #[.int .u64 0, .int .u64 7]) (by simp [results, Tryz.results212, go_sem, *]; first | decide | decide +kernel | rfl) rfl ⟨rfl, rfl⟩
  · go_enter Tryz.func212, Tryz.ntmps212
    go_wp2_with fail
    exact bodyPost_ret (v := .tuple #[.int .u64 0, .int .u64 8]) (by simp [results, Tryz.results212, go_sem, *]; first | decide | decide +kernel | rfl) rfl ⟨rfl, rfl⟩
  · go_enter Tryz.func212, Tryz.ntmps212
    go_wp2_with fail
    exact bodyPost_ret (v := .tuple #[.int .u64 0, .int .u64 9]) (by simp [results, Tryz.results212, go_sem, *]; first | decide | decide +kernel | rfl) rfl ⟨rfl, rfl⟩
  · go_enter Tryz.func212, Tryz.ntmps212
    go_wp2_with fail
    exact bodyPost_ret (v := .tuple #[.int .u64 0, .int .u64 10]) (by simp [results, Tryz.results212, go_sem, *]; first | decide | decide +kernel | rfl) rfl ⟨rfl, rfl⟩
  · go_enter Tryz.func212, Tryz.ntmps212
    go_wp2_with fail
    exact bodyPost_ret (v := .tuple #[.int .u64 0, .int .u64 11]) (by simp [results, Tryz.results212, go_sem, *]; first | decide | decide +kernel | rfl) rfl ⟨rfl, rfl⟩
  · go_enter Tryz.func212, Tryz.ntmps212
    go_wp2_with fail
    exact bodyPost_ret (v := .tuple #[.int .u64 0, .int .u64 12]) (by simp [results, Tryz.results212, go_sem, *]; first | decide | decide +kernel | rfl) rfl ⟨rfl, rfl⟩
  · go_enter Tryz.func212, Tryz.ntmps212
    go_wp2_with fail
    exact bodyPost_ret (v := .tuple #[.int .u64 0, .int .u64 13]) (by simp [results, Tryz.results212, go_sem, *]; first | decide | decide +kernel | rfl) rfl ⟨rfl, rfl⟩
  · go_enter Tryz.func212, Tryz.ntmps212
    go_wp2_with fail
    exact bodyPost_ret (v := .tuple #[.int .u64 0, .int .u64 14]) (by simp [results, Tryz.results212, go_sem, *]; first | decide | decide +kernel | rfl) rfl ⟨rfl, rfl⟩
  · go_enter Tryz.func212, Tryz.ntmps212
    go_wp2_with fail
    exact bodyPost_ret (v := .tuple #[.int .u64 0, .int .u64 15]) (by simp [results, Tryz.results212, go_sem, *]; first | decide | decide +kernel | rfl) rfl ⟨rfl, rfl⟩
  · go_enter Tryz.func212, Tryz.ntmps212
    go_wp2_with fail
    exact bodyPost_ret (v := .tuple #[.int .u64 0, .int .u64 16]) (by simp [results, Tryz.results212, go_sem, *]; first | decide | decide +kernel | rfl) rfl ⟨rfl, rfl⟩
  · go_enter Tryz.func212, Tryz.ntmps212
    go_wp2_with fail
    exact bodyPost_ret (v := .tuple #[.int .u64 0, .int .u64 17]) (by simp [results, Tryz.results212, go_sem, *]; first | decide | decide +kernel | rfl) rfl ⟨rfl, rfl⟩
  · go_enter Tryz.func212, Tryz.ntmps212
    go_wp2_with fail
    exact bodyPost_ret (v := .tuple #[.int .u64 0, .int .u64 18]) (by simp [results, Tryz.results212, go_sem, *]; first | decide | decide +kernel | rfl) rfl ⟨rfl, rfl⟩
  · go_enter Tryz.func212, Tryz.ntmps212
    go_wp2_with fail
    exact bodyPost_ret (v := .tuple #[.int .u64 0, .int .u64 19]) (by simp [results, Tryz.results212, go_sem, *]; first | decide | decide +kernel | rfl) rfl ⟨rfl, rfl⟩
  · go_enter Tryz.func212, Tryz.ntmps212
    go_wp2_with fail
    exact bodyPost_ret (v := .tuple #[.int .u64 0, .int .u64 20]) (by simp [results, Tryz.results212, go_sem, *]; first | decide | decide +kernel | rfl) rfl ⟨rfl, rfl⟩
set_option maxRecDepth 20000 in
set_option maxHeartbeats 4000000 in
theorem mul_one (y : Int) (w : World) (h0 : 0 ≤ y) (h1 : y ≤ 20) : Calls Tryz.prog 188 #[.int .u64 1, .int .u64 y] w fun e w' => e = .returned (.tuple #[.int .u64 0, .int .u64 y]) ∧ w' = w := by
  go_enter Tryz.func188, Tryz.ntmps188
  go_wp2_with fail
  refine (mul64_one y w h0 h1).mono ?_
  rintro e w' ⟨rfl, rfl⟩
  go_wp2_with fail
  exact bodyPost_ret (v := .tuple #[.int .u64 0, .int .u64 y]) (by simp [results, Tryz.results188, go_sem, *]) rfl ⟨rfl, rfl⟩
end Go.Proofs.YtdoapojmenojoaaGreatDoor
end

section
/- So often the same: the library's own Repeat, of one node. -/
set_option linter.unusedVariables false
namespace Go.Proofs.YtdoapojmenojoaaGreatDoor
open Go.RowKit
open Sx (Nd)

theorem run_copy_row7 {P : Program} (w : World) (t ty e : TypeId) (hu : P.underlying t = some (.slice e)) (hi : (P.info? e).map (fun i => (i.zero, i.size, i.bytes)) = some (some (ndv 0 (.slice none 0 0) 0 0 false 0 (.slice none 0 0)), 7, 88))
    (g o dLen dCap : Nat) (a : Addr) (sLen sCap : Nat) (cur : Array Value) (tt : TypeId) (cs : List Value) (hg : w.heap[g]? = some (.cells cur tt (0, 0))) (hn : cs.length = Nat.min sLen dLen * 7)
    (hsrc : ∀ j v, cs[j]? = some v → w.cell? (a.add j) = some v) (hfit : o + cs.length ≤ cur.size) (h1 : ∀ v ∈ cs, v.oneCell' = true) :
    (Builtin.copy_ #[t, t] ty #[.slice (some ⟨g, o, none⟩) dLen dCap, .slice (some a) sLen sCap]).run P w =
      .ok (.int .i64 ((Nat.min sLen dLen : Nat) : Int)) (w.setRow g (cur.toList.take o ++ cs ++ cur.toList.drop (o + cs.length)).toArray) := by
  obtain ⟨i0, hi, hz0, hz1, hz2⟩ := info_parts hi
  have hl := run_loadCells_list (P := P) w a cs hsrc
  have hst := run_storeCells_at P g o tt cs 0 cur w hg (by simpa using hfit) h1
  rw [hn] at hl
  simp [Builtin.copy_, run_underlying hu, Builtin.lenOf, Builtin.firstCells, sizeOf, typeInfo, hi, hz1, hl, hst, goInt]
theorem step_copy_run {P : Program} {ops : Array Oper} {o : Oper} {a : Act} {w : World} {K : Act → World → Prop} {Q : Exit → Act → World → Prop} {E : Prop} (hgd : o.guard = none) (d s : Operand) (t t' : TypeId)
    (ho : o.op = .call { callee := .builtin .copy, args := #[d, s], argTypes := #[t, t'] }) (v u : Value) (hd : a.eval d = v) (hs : a.eval s = u) {v' : Value} {w' : World}
    (hr : (Builtin.copy_ #[t, t'] o.type #[v, u]).run P w = .ok v' w') (h : K (a.put o.dst v') w') : if Region.wanted o (yielded ops a.tmps) = true then Oper.wp P o a w K Q else E := by
  have hw : Region.wanted o (yielded ops a.tmps) = true := by simp [Region.wanted, hgd]
  rw [if_pos hw]
  exact Lib.wp_copy_run w d s t t' ho v u hd hs hr h
def rp (j : Nat) (cs : List Value) : List Value := (List.replicate j cs).flatten
theorem rp_len (cs : List Value) (h : cs.length = 7) : ∀ j, (rp j cs).length = j * 7
  | 0 => rfl
  | j + 1 => by
    have := rp_len cs h j
    unfold rp at this ⊢
    rw [List.replicate_succ, List.flatten_cons, List.length_append, this, h]; omega
theorem rp_add (a b : Nat) (cs : List Value) : rp (a + b) cs = rp a cs ++ rp b cs := by
  unfold rp
  rw [← List.replicate_append_replicate, List.flatten_append]
theorem rp_take {a b : Nat} (h : a ≤ b) (cs : List Value) (h7 : cs.length = 7) : (rp b cs).take (a * 7) = rp a cs := by
  obtain ⟨c, rfl⟩ := Nat.le.dest h
  rw [rp_add, List.take_append_of_le_length (by rw [rp_len cs h7]; omega), List.take_of_length_le (by rw [rp_len cs h7]; omega)]
theorem rp_get (cs : List Value) (h7 : cs.length = 7) {m i t : Nat} (hi : i < m) (ht : t < 7) : (rp m cs)[i * 7 + t]? = cs[t]? := by
  have e : rp m cs = rp i cs ++ (rp 1 cs ++ rp (m - i - 1) cs) := by rw [← rp_add, ← rp_add]; congr 1; omega
  rw [e, List.getElem?_append_right (by rw [rp_len cs h7]; omega), rp_len cs h7, show i * 7 + t - i * 7 = t by omega, List.getElem?_append_left (by rw [rp_len cs h7]; omega)]
  simp [rp]
theorem rp_mem {cs : List Value} {m : Nat} {v : Value} (h : v ∈ rp m cs) : v ∈ cs := by
  unfold rp at h
  obtain ⟨l, hl, hv⟩ := List.mem_flatten.1 h
  rw [(List.mem_replicate.1 hl).2] at hv; exact hv
def Rw (wr : World) (g m j : Nat) (cs : List Value) : Prop := ∃ cur, wr.heap[g]? = some (.cells cur 29 (0, 0)) ∧ cur.size = m * 7 ∧ cur.toList.take (j * 7) = rp j cs
theorem Rw.cell {wr : World} {g m j : Nat} {cs : List Value} (h : Rw wr g m j cs) (h7 : cs.length = 7) {i : Nat} {v : Value} (hv : (rp j cs)[i]? = some v) : wr.cell? ⟨g, i, none⟩ = some v := by
  obtain ⟨cur, hg, hs, ht⟩ := h
  rw [Lib.cell_of_heap hg, ← hv, ← ht]
  have := (List.getElem?_eq_some_iff.1 hv).1
  rw [rp_len cs h7] at this
  rw [List.getElem?_take_of_lt this]
  simp
theorem Rw.drew {wr : World} {g m j : Nat} {cs : List Value} (h : Rw wr g m j cs) : Rw wr.drew g m j cs := h
theorem Rw.below {wr w' : World} {g m j : Nat} {cs : List Value} (h : Rw wr g m j cs) (hb : Below wr.heap.size wr w') : Rw w' g m j cs := by
  obtain ⟨cur, hg, hs, ht⟩ := h
  exact ⟨cur, (hb.block g (Array.getElem?_eq_some_iff.1 hg).1).trans hg, hs, ht⟩
theorem Rw.copy {P : Program} {w : World} {g m j : Nat} {cs : List Value} (h : Rw w g m j cs) (h7 : cs.length = 7) (h1 : ∀ v ∈ cs, v.oneCell' = true) (t ty : TypeId) (hu : P.underlying t = some (.slice 29))
    (hi : (P.info? 29).map (fun i => (i.zero, i.size, i.bytes)) = some (some (ndv 0 (.slice none 0 0) 0 0 false 0 (.slice none 0 0)), 7, 88)) (a : Addr) (s c dl dc sc : Nat)
    (hs : ∀ i v, (rp c cs)[i]? = some v → w.cell? (a.add i) = some v) (hc : c = Nat.min s dl) (hfit : j + c ≤ m) :
    ∃ w', (Builtin.copy_ #[t, t] ty #[.slice (some ⟨g, j * 7, none⟩) dl dc, .slice (some a) s sc]).run P w = .ok (.int .i64 (c : Int)) w' ∧ Rw w' g m (j + c) cs ∧ (∀ B, B ≤ g → ∀ w0, Below B w0 w → Below B w0 w') := by
  obtain ⟨cur, hg, hz, ht⟩ := h
  have hl := rp_len cs h7 c
  have hr := run_copy_row7 (P := P) w t ty 29 hu hi g (j * 7) dl dc a s sc cur 29 (rp c cs) hg (by rw [hl, hc]) hs (by rw [hl, hz]; omega) (fun v hv => h1 v (rp_mem hv))
  rw [← hc] at hr
  refine ⟨_, hr, ⟨_, setRow_heap w g cur _ _ _ hg, ?_, ?_⟩, fun B hB w0 hb => below_setRow hb hB _⟩
  · simp only [List.size_toArray, List.length_append, List.length_take, List.length_drop, hl, Array.length_toList, hz]; omega
  · rw [List.toList_toArray, ht, Nat.add_mul, List.take_append_of_le_length (by rw [List.length_append, rp_len cs h7, hl]; omega), List.take_of_length_le (by rw [List.length_append, rp_len cs h7, hl]; omega), rp_add]
theorem Rw.own {S : Nat → Prop} {wr : World} {g m base : Nat} {k : Int} {ka : Option Addr} {ki kj : Nat} {mn mx : Int} {lz : Bool} {g' : Int} {kb : Option Addr} {ks kt : Nat} {n : Nd} (h : Rw wr g m m [.int .i64 k, .slice ka ki kj, .int .i64 mn, .int .i64 mx, .bool lz, .int .i64 g', .slice kb ks kt]) (hb : base ≤ g) (hm : m ≤ 1000)
    (hk : NodeS (fun b => S b ∧ b < wr.heap.size ∧ g ≠ b) wr k (.slice ka ki kj) mn mx lz g' (.slice kb ks kt) n) : OwnN S wr base 29 (.slice (some ⟨g, 0, none⟩) m m) (List.replicate m n) := by
  obtain ⟨cur, hg, hs, ht⟩ := h
  refine ⟨rp m [.int .i64 k, .slice ka ki kj, .int .i64 mn, .int .i64 mx, .bool lz, .int .i64 g', .slice kb ks kt], ⟨by rw [rp_len _ rfl, List.length_replicate], .inr ⟨g, m, cur, by rw [List.length_replicate], hb, hg, by rw [List.length_replicate]; exact Nat.le_refl _, by unfold maxLen; omega, hs, by rw [List.length_replicate]; exact ht⟩⟩, fun i x hx => ?_⟩
  have hi := (List.getElem?_eq_some_iff.1 hx).1
  rw [List.length_replicate] at hi
  have hxn : x = n := by rw [List.getElem?_replicate, if_pos hi] at hx; exact (Option.some.inj hx).symm
  subst hxn
  refine ⟨k, _, mn, mx, lz, g', _, rp_get _ rfl (t := 0) hi (by decide), rp_get _ rfl (t := 1) hi (by decide), rp_get _ rfl (t := 2) hi (by decide), rp_get _ rfl (t := 3) hi (by decide), rp_get _ rfl (t := 4) hi (by decide), rp_get _ rfl (t := 5) hi (by decide), rp_get _ rfl (t := 6) hi (by decide), hk.mono (fun b hb' => ⟨⟨hb'.1, hb'.2.1, fun e => hb'.2.2 (by injection e)⟩, rfl⟩)⟩
set_option maxRecDepth 20000 in
set_option maxHeartbeats 4000000 in
theorem repeat_one (m : Nat) (hm : m ≤ 20) (B : Nat) (k : Int) (ka : Option Addr) (ki kj : Nat) (mn mx : Int) (lz : Bool) (g : Int) (kb : Option Addr) (ks kt : Nat) (n : Nd) (S : Nat → Prop) (w : World) (hb : BoxN w B k (.slice ka ki kj) mn mx lz g (.slice kb ks kt)) (hk : NodeS S w k (.slice ka ki kj) mn mx lz g (.slice kb ks kt) n) (hS0 : ∀ b, S b → b < w.heap.size) :
    Calls Tryz.prog 165 #[.slice (some ⟨B, 0, none⟩) 1 1, .int .i64 m] w fun e w' => ∃ v, e = .returned v ∧ OwnN S w' w.heap.size 29 v (List.replicate m n) ∧ Below w.heap.size w w' := by
  obtain ⟨C, hC⟩ : ∃ C : List Value, C = [.int .i64 k, .slice ka ki kj, .int .i64 mn, .int .i64 mx, .bool lz, .int .i64 g, .slice kb ks kt] := ⟨_, rfl⟩
  have hC7 : C.length = 7 := by rw [hC]; rfl
  have hC1 : ∀ v ∈ C, v.oneCell' = true := by
    intro u hu
    rw [hC] at hu
    simp at hu
    rcases hu with rfl | rfl | rfl | rfl | rfl | rfl | rfl <;> rfl
  obtain ⟨i0, hi, hz0, hz1, hz2⟩ := info_parts Tryz.infoSN
  obtain ⟨w1, hr1, ho1, hg1⟩ := run_make_full (P := Tryz.prog) w w.heap.size 27 29 i0 _ 7 Tryz.underlying27 hi hz0 hz1 .i64 .i64 m (by rw [hz2]; omega) (by unfold maxLen; omega) (Nat.le_refl _)
  have hb1 : Below w.heap.size w w1 := ⟨hg1.os, hg1.tape, hg1.output, hg1.size, fun i hi => hg1.block i hi (by simp)⟩
  have hR : Rw w1 w.heap.size m 0 C := by
    rcases ho1.2 with ⟨e, _⟩ | ⟨g1, cap1, cur1, e, _, hc1, _, _, hz, _⟩
    · cases e
    · simp only [Value.slice.injEq, Option.some.injEq, Addr.mk.injEq, and_true, true_and] at e
      obtain ⟨rfl, rfl⟩ := e
      exact ⟨cur1, hc1, hz, by simp [rp]⟩
  have hbx := hb.below hb1
  obtain ⟨w2, hr2, hR2, hbb⟩ := hR.copy hC7 hC1 27 3 Tryz.underlying27 Tryz.infoSN ⟨B, 0, none⟩ 1 (Nat.min 1 m) m m 1 (fun i v hv => by
    rw [Addr.add_defn]
    have hv' : C[i]? = some v := by
      have hlt := (List.getElem?_eq_some_iff.1 hv).1
      rw [rp_len C hC7] at hlt
      have h1m : Nat.min 1 m ≤ 1 := Nat.min_le_left _ _
      have := rp_get C hC7 (m := Nat.min 1 m) (i := 0) (t := i) (by omega) (by omega)
      rw [Nat.zero_mul, Nat.zero_add] at this
      rw [← this]; exact hv
    rw [hC] at hv'
    obtain ⟨q0, q1, q2, q3, q4, q5, q6, _⟩ := hbx.cells
    match i, hv' with
    | 0, h => simp at h; subst h; exact q0
    | 1, h => simp at h; subst h; exact q1
    | 2, h => simp at h; subst h; exact q2
    | 3, h => simp at h; subst h; exact q3
    | 4, h => simp at h; subst h; exact q4
    | 5, h => simp at h; subst h; exact q5
    | 6, h => simp at h; subst h; exact q6) rfl (by have : Nat.min 1 m ≤ m := Nat.min_le_right _ _; omega)
  rw [Nat.zero_mul] at hr2
  rw [Nat.zero_add] at hR2
  have hB2 := hbb _ (Nat.le_refl _) w hb1
  have HR2 := Lib.hid hR2
  have HB2 := Lib.hid hB2
  have HK := Lib.hid hk
  have HS0 := Lib.hid hS0
  have HC := Lib.hid hC
  have h0 : ¬ ((m : Int) < 0) := by omega
  clear hg1 ho1 hb1 hR hbx hbb hR2 hB2 hk hS0 hb hi hz0 hz1 hz2 hC
  go_enter Tryz.func165, Tryz.ntmps165
  go_wp2_with fail
  refine (mul_one (m : Int) w (by omega) (by omega)).mono ?_
  rintro e w' ⟨rfl, rfl⟩
  have h1 : ¬ ((m : Int) > 9223372036854775807) := by omega
  go_wp2_with (at_builtin; refine Lib.wpList_copy_run _ rfl _ _ 27 27 rfl _ _ rfl rfl hr2 ?_)
  clear hr1 hr2
  go_wp2_with fail
  go_loopw [8] (fun i wr => ∃ j : Nat, i = .int .i64 (j : Int) ∧ j ≤ m ∧ (1 ≤ j ∨ m = 0) ∧ Hid (Rw wr w'.heap.size m j C) ∧ Hid (Below w'.heap.size w' wr)) (fun i _ => m - (intOf i).toNat)
  case atStart => exact ⟨Nat.min 1 m, rfl, Nat.min_le_right _ _, by by_cases e : m = 0; exact .inr e; exact .inl (by show 1 ≤ min 1 m; omega), HR2, HB2⟩
  case round =>
    obtain ⟨j, rfl, hj, hj1, HRr, HBr⟩ := hrel
    by_cases hlt : j < m
    · have hlt' : (j : Int) < (m : Int) := by omega
      have hj0 : 1 ≤ j := by omega
      have a1 : ¬ ((j : Int) > (m : Int)) := by omega
      have a2 : ¬ (m = j) := by omega
      have a3 : m - j = m - j := rfl
      go_wp2_with fail
      obtain ⟨w3, hr3, hR3, hbb3⟩ := HRr.out.drew.copy hC7 hC1 27 3 Tryz.underlying27 Tryz.infoSN ⟨w'.heap.size, 0, none⟩ j (Nat.min j (m - j)) (m - j) (m - j) m (fun i v hv => by
        rw [Addr.add_defn, Nat.zero_add]
        have hlt := (List.getElem?_eq_some_iff.1 hv).1
        refine HRr.out.drew.cell hC7 (?_ : (rp j C)[i]? = some v)
        rw [← rp_take (Nat.min_le_left j (m - j)) C hC7, List.getElem?_take_of_lt (by rw [rp_len C hC7] at hlt; exact hlt)] at hv
        exact hv) rfl (by have : Nat.min j (m - j) ≤ m - j := Nat.min_le_right _ _; omega)
      have HR3 := Lib.hid hR3
      have HB3 := Lib.hid (hbb3 _ (Nat.le_refl _) w' HBr.out.drew)
      have hmin : Nat.min j (m - j) ≤ m - j := Nat.min_le_right _ _
      have hmin1 : 1 ≤ Nat.min j (m - j) := by show 1 ≤ min j (m - j); omega
      obtain ⟨c, hc⟩ : ∃ c, c = Nat.min j (m - j) := ⟨_, rfl⟩
      rw [← hc] at hr3 HR3 hmin hmin1
      clear hR3 hbb3 hc
      go_region_law (fail "here")
      clear hr3
      have hwr : IntKind.i64.wrap ((j : Int) + (c : Int)) = (j : Int) + (c : Int) := by
        first | (simp [IntKind.wrap, IntKind.bits, IntKind.signed]; omega) | (unfold IntKind.wrap; simp; omega)
      go_simp
      refine ⟨?_, ?measure⟩
      iterate 14 apply Exists.intro
      refine ⟨?rel, ?eq⟩
      case eq => rfl
      case rel => exact ⟨j + c, by go_num, by omega, .inl (by omega), HR3, HB3⟩
      case measure => simp [intOf]; omega
    · obtain rfl : j = m := by omega
      have HBe := Lib.hid HBr.out
      have HO := Lib.hid ((HC.out ▸ HRr.out : Rw wr w'.heap.size j j _).own (S := S) (base := w'.heap.size) (Nat.le_refl _) (by omega) (HK.out.mono (fun b hb => ⟨⟨hb, Nat.lt_of_lt_of_le (HS0.out b hb) HBe.out.size, by have := HS0.out b hb; omega⟩, HBe.out.block b (HS0.out b hb)⟩)))
      go_wp2_with fail
      go_ret
      exact ⟨_, rfl, HO.out, HBe.out⟩
end Go.Proofs.YtdoapojmenojoaaGreatDoor
end

section
/- So often a node, at most so often: the program's own. -/
set_option linter.unusedVariables false
namespace Go.Proofs.YtdoapojmenojoaaGreatDoor
open Go.RowKit
open Sx (Nd)

theorem OwnN.base {S S' : Nat → Prop} {w : World} {base base' : Nat} {ty : TypeId} {v : Value} {l : List Nd} (h : OwnN S w base ty v l) (hb : base' ≤ base) (hS : ∀ b, S b → S' b) : OwnN S' w base' ty v l := by
  obtain ⟨xs, ho, hn⟩ := h
  refine ⟨xs, ⟨ho.1, ?_⟩, fun i n hi => ?_⟩
  · rcases ho.2 with h | ⟨g, cap, cur, e, h1, h2⟩
    · exact .inl h
    · exact .inr ⟨g, cap, cur, e, Nat.le_trans hb h1, h2⟩
  · obtain ⟨k, vc, mn, mx, lz, g, vl, x0, x1, x2, x3, x4, x5, x6, hh⟩ := hn i n hi
    exact ⟨k, vc, mn, mx, lz, g, vl, x0, x1, x2, x3, x4, x5, x6, hh.mono (fun b hb => ⟨⟨hS b hb.1, hb.2⟩, rfl⟩)⟩
theorem flat6_len (l : List Nd) : (flatK 6 l).length ≤ nszs l := by
  rw [flatK6]
  have h1 := Sx.flat6_size l
  have h2 : ∀ t : List Nd, t.length ≤ nszs t := fun t => by
    induction t with
    | nil => simp
    | cons y t ih => have := nsz_pos y; rw [nszs, List.length_cons]; omega
  exact Nat.le_trans (h2 _) h1
theorem flat7_len (l : List Nd) : (flatK 7 l).length ≤ nszs l := by
  rw [flatK7]
  have h1 := Sx.flat7_size l
  have h2 : ∀ t : List Nd, t.length ≤ nszs t := fun t => by
    induction t with
    | nil => simp
    | cons y t ih => have := nsz_pos y; rw [nszs, List.length_cons]; omega
  exact Nat.le_trans (h2 _) h1
theorem perh_nsz (z : Bool) (n : Nd) : ∀ f : Nat, nsz (Sx.perh f z n) ≤ f * (nsz n + 2) + 1
  | 0 => by simp [Sx.perh, Sx.empty, nsz, nszs]
  | f + 1 => by
    have h1 := Sx.sequence_size [n, Sx.perh f z n]
    have h2 := perh_nsz z n f
    rw [Sx.perh, Sx.again, nsz, nszs, nszs]
    rw [nszs, nszs, nszs] at h1
    rw [Nat.succ_mul]; omega
set_option maxRecDepth 20000 in
set_option maxHeartbeats 4000000 in
theorem stimes_any (m : Nat) (hm : m ≤ 20) (k : Int) (ka : Option Addr) (ki kj : Nat) (mn mx : Int) (lz : Bool) (g : Int) (kb : Option Addr) (ks kt : Nat) (n : Nd) (S : Nat → Prop) (w : World) (hk : NodeS S w k (.slice ka ki kj) mn mx lz g (.slice kb ks kt) n) (hS0 : ∀ b, S b → b < w.heap.size) :
    Calls Tryz.prog 148 #[.int .i64 m, ndv k (.slice ka ki kj) mn mx lz g (.slice kb ks kt)] w fun e w' => ∃ v, e = .returned v ∧ OwnN S w' w.heap.size 29 v (List.replicate m n) ∧ Below w.heap.size w w' := by
  unfold ndv
  have b1 := below_new w (.cells #[.int .i64 k, .slice ka ki kj, .int .i64 mn, .int .i64 mx, .bool lz, .int .i64 g, .slice kb ks kt] 29)
  have b2 := bvia b1 (below_new (w.alloc (.cells #[.int .i64 k, .slice ka ki kj, .int .i64 mn, .int .i64 mx, .bool lz, .int .i64 g, .slice kb ks kt] 29)) (.cells #[.int .i64 k, .slice ka ki kj, .int .i64 mn, .int .i64 mx, .bool lz, .int .i64 g, .slice kb ks kt] 29))
  have HB := Lib.hid b2
  have hx := BoxN.new (w.alloc (.cells #[.int .i64 k, .slice ka ki kj, .int .i64 mn, .int .i64 mx, .bool lz, .int .i64 g, .slice kb ks kt] 29)) k (.slice ka ki kj) mn mx lz g (.slice kb ks kt)
  have he : (w.alloc (.cells #[.int .i64 k, .slice ka ki kj, .int .i64 mn, .int .i64 mx, .bool lz, .int .i64 g, .slice kb ks kt] 29)).heap.size = w.heap.size + 1 := by simp
  rw [he] at hx
  have HX := Lib.hid hx
  clear hx he
  have HK := Lib.hid (hk.mono (S' := S) (fun b hb => ⟨hb, b2.block b (hS0 b hb)⟩))
  have HS0 := Lib.hid hS0
  clear hk hS0 b1 b2
  go_enter Tryz.func148, Tryz.ntmps148
  go_wp2_with fail
  with_reducible refine (repeat_one m hm (w.heap.size + 1) k ka ki kj mn mx lz g kb ks kt n S _ HX.out HK.out (fun b hb => Nat.lt_of_lt_of_le (HS0.out b hb) HB.out.size)).mono ?_
  rintro e w1 ⟨v, rfl, ho, hb⟩
  have HO := Lib.hid (ho.base (S' := S) HB.out.size (fun b hb => hb))
  have HBB := Lib.hid (bvia HB.out hb)
  obtain ⟨p9, c9, e9⟩ := own_slice ho
  rw [List.length_replicate] at e9
  subst e9
  clear ho hb
  go_wp2_with fail
  go_ret
  exact ⟨_, rfl, HO.out, HBB.out⟩
end Go.Proofs.YtdoapojmenojoaaGreatDoor
end

section
/- At most so often a node: the program's own. -/
set_option linter.unusedVariables false
namespace Go.Proofs.YtdoapojmenojoaaGreatDoor
open Go.RowKit
open Sx (Nd)

def PH (S : Nat → Prop) (w wr : World) (n : Nd) (k : Int) (ka : Option Addr) (ki kj : Nat) (mn mx : Int) (lz : Bool) (g : Int) (kb : Option Addr) (ks kt : Nat) (z : Bool) (j : Nat) : Prop :=
  BoxN wr w.heap.size k (.slice ka ki kj) mn mx lz g (.slice kb ks kt) ∧ BoxN wr (w.heap.size + 1) 0 (.slice none 0 0) 0 0 false 0 (.slice none 0 0) ∧ Below w.heap.size w wr ∧ w.heap.size + 3 ≤ wr.heap.size ∧
    ∃ k2 ka2 ki2 kj2 mn2 mx2 lz2 g2 kb2 ks2 kt2, BoxN wr (w.heap.size + 1 + 1) k2 (.slice ka2 ki2 kj2) mn2 mx2 lz2 g2 (.slice kb2 ks2 kt2) ∧ NodeS (fun b => S b ∨ (w.heap.size + 3 ≤ b ∧ b < wr.heap.size)) wr k2 (.slice ka2 ki2 kj2) mn2 mx2 lz2 g2 (.slice kb2 ks2 kt2) (Sx.perh j z n)
theorem kids_two {S : Nat → Prop} {w : World} {B : Nat} {n m : Nd} {k : Int} {ka : Option Addr} {ki kj : Nat} {mn mx : Int} {lz : Bool} {g : Int} {kb : Option Addr} {ks kt : Nat} {k2 : Int} {ka2 : Option Addr} {ki2 kj2 : Nat} {mn2 mx2 : Int} {lz2 : Bool} {g2 : Int} {kb2 : Option Addr} {ks2 kt2 : Nat} (hb : w.heap[B]? = some (.cells #[.int .i64 k, .slice ka ki kj, .int .i64 mn, .int .i64 mx, .bool lz, .int .i64 g, .slice kb ks kt, .int .i64 k2, .slice ka2 ki2 kj2, .int .i64 mn2, .int .i64 mx2, .bool lz2, .int .i64 g2, .slice kb2 ks2 kt2] 29 (0, 0))) (hB : S B) (h : NodeS S w k (.slice ka ki kj) mn mx lz g (.slice kb ks kt) n) (h2 : NodeS S w k2 (.slice ka2 ki2 kj2) mn2 mx2 lz2 g2 (.slice kb2 ks2 kt2) m) : KidsS S w (some ⟨B, 0, none⟩) 0 [n, m] := by
  have hc : ∀ i, w.cell? ⟨B, i, none⟩ = _ := fun i => Lib.cell_of_heap hb i
  rw [KidsS, KidsS, KidsS]
  refine ⟨⟨B, 0, k, _, mn, mx, lz, g, _, rfl, hB, ⟨?_, ?_, ?_, ?_, ?_, ?_, ?_⟩, h⟩, ⟨B, 0, k2, _, mn2, mx2, lz2, g2, _, rfl, hB, ⟨?_, ?_, ?_, ?_, ?_, ?_, ?_⟩, h2⟩, trivial⟩ <;> (rw [hc]; rfl)
set_option maxRecDepth 20000 in
set_option maxHeartbeats 4000000 in
theorem perhaps_any (f : Nat) (hf : f ≤ 20) (z : Bool) (k : Int) (ka : Option Addr) (ki kj : Nat) (mn mx : Int) (lz : Bool) (g : Int) (kb : Option Addr) (ks kt : Nat) (n : Nd) (hn : nsz n ≤ 400) (S : Nat → Prop) (w : World) (hk : NodeS S w k (.slice ka ki kj) mn mx lz g (.slice kb ks kt) n) (hS0 : ∀ b, S b → b < w.heap.size) :
    Calls Tryz.prog 149 #[.int .i64 f, .bool z, ndv k (.slice ka ki kj) mn mx lz g (.slice kb ks kt)] w fun e w' => ∃ u, e = .returned u ∧ NodeVS (Joined S w w') w' u (Sx.perh f z n) ∧ Below w.heap.size w w' := by
  unfold ndv
  have HKK := Lib.hid hk
  have HS0 := Lib.hid hS0
  have hp : PH S w (((w.alloc (.cells #[.int .i64 k, .slice ka ki kj, .int .i64 mn, .int .i64 mx, .bool lz, .int .i64 g, .slice kb ks kt] 29)).alloc (.cells #[.int .i64 0, .slice none 0 0, .int .i64 0, .int .i64 0, .bool false, .int .i64 0, .slice none 0 0] 29)).alloc (.cells #[.int .i64 0, .slice none 0 0, .int .i64 0, .int .i64 0, .bool false, .int .i64 0, .slice none 0 0] 29)) n k ka ki kj mn mx lz g kb ks kt z 0 := by
    have b1 := below_new w (.cells #[.int .i64 k, .slice ka ki kj, .int .i64 mn, .int .i64 mx, .bool lz, .int .i64 g, .slice kb ks kt] 29)
    have b2 := bvia b1 (below_new (w.alloc (.cells #[.int .i64 k, .slice ka ki kj, .int .i64 mn, .int .i64 mx, .bool lz, .int .i64 g, .slice kb ks kt] 29)) (.cells #[.int .i64 0, .slice none 0 0, .int .i64 0, .int .i64 0, .bool false, .int .i64 0, .slice none 0 0] 29))
    have b3 := bvia b2 (below_new ((w.alloc (.cells #[.int .i64 k, .slice ka ki kj, .int .i64 mn, .int .i64 mx, .bool lz, .int .i64 g, .slice kb ks kt] 29)).alloc (.cells #[.int .i64 0, .slice none 0 0, .int .i64 0, .int .i64 0, .bool false, .int .i64 0, .slice none 0 0] 29)) (.cells #[.int .i64 0, .slice none 0 0, .int .i64 0, .int .i64 0, .bool false, .int .i64 0, .slice none 0 0] 29))
    have e1 : (w.alloc (.cells #[.int .i64 k, .slice ka ki kj, .int .i64 mn, .int .i64 mx, .bool lz, .int .i64 g, .slice kb ks kt] 29)).heap.size = w.heap.size + 1 := by simp
    have e2 : ((w.alloc (.cells #[.int .i64 k, .slice ka ki kj, .int .i64 mn, .int .i64 mx, .bool lz, .int .i64 g, .slice kb ks kt] 29)).alloc (.cells #[.int .i64 0, .slice none 0 0, .int .i64 0, .int .i64 0, .bool false, .int .i64 0, .slice none 0 0] 29)).heap.size = w.heap.size + 1 + 1 := by simp
    have e3 : (((w.alloc (.cells #[.int .i64 k, .slice ka ki kj, .int .i64 mn, .int .i64 mx, .bool lz, .int .i64 g, .slice kb ks kt] 29)).alloc (.cells #[.int .i64 0, .slice none 0 0, .int .i64 0, .int .i64 0, .bool false, .int .i64 0, .slice none 0 0] 29)).alloc (.cells #[.int .i64 0, .slice none 0 0, .int .i64 0, .int .i64 0, .bool false, .int .i64 0, .slice none 0 0] 29)).heap.size = w.heap.size + 3 := by simp
    refine ⟨((BoxN.new w k (.slice ka ki kj) mn mx lz g (.slice kb ks kt)).below (below_new _ _)).below (below_new _ _), ?_, b3, by omega, 0, none, 0, 0, 0, 0, false, 0, none, 0, 0, ?_, ?_⟩
    · have := (seven0_new (w.alloc (.cells #[.int .i64 k, .slice ka ki kj, .int .i64 mn, .int .i64 mx, .bool lz, .int .i64 g, .slice kb ks kt] 29))).box.below (below_new ((w.alloc (.cells #[.int .i64 k, .slice ka ki kj, .int .i64 mn, .int .i64 mx, .bool lz, .int .i64 g, .slice kb ks kt] 29)).alloc (.cells #[.int .i64 0, .slice none 0 0, .int .i64 0, .int .i64 0, .bool false, .int .i64 0, .slice none 0 0] 29)) (.cells #[.int .i64 0, .slice none 0 0, .int .i64 0, .int .i64 0, .bool false, .int .i64 0, .slice none 0 0] 29))
      rw [e1] at this; exact this
    · have := (seven0_new ((w.alloc (.cells #[.int .i64 k, .slice ka ki kj, .int .i64 mn, .int .i64 mx, .bool lz, .int .i64 g, .slice kb ks kt] 29)).alloc (.cells #[.int .i64 0, .slice none 0 0, .int .i64 0, .int .i64 0, .bool false, .int .i64 0, .slice none 0 0] 29))).box
      rw [e2] at this; exact this
    · exact nodeS_mk (kids := []) (by decide) (by simp) (by rw [KidsS]; trivial)
  have HP := Lib.hid hp
  clear hp hk hS0
  go_enter Tryz.func149, Tryz.ntmps149
  go_wp2_with fail
  generalize (((w.alloc (.cells #[.int .i64 k, .slice ka ki kj, .int .i64 mn, .int .i64 mx, .bool lz, .int .i64 g, .slice kb ks kt] 29)).alloc (.cells #[.int .i64 0, .slice none 0 0, .int .i64 0, .int .i64 0, .bool false, .int .i64 0, .slice none 0 0] 29)).alloc (.cells #[.int .i64 0, .slice none 0 0, .int .i64 0, .int .i64 0, .bool false, .int .i64 0, .slice none 0 0] 29)) = w3 at *
  go_loopw [10] (fun i wr => ∃ j : Nat, i = .int .i64 (j : Int) ∧ j ≤ f ∧ Hid (PH S w wr n k ka ki kj mn mx lz g kb ks kt z j)) (fun i _ => f - (intOf i).toNat)
  case atStart => exact ⟨0, rfl, Nat.zero_le _, HP⟩
  case round =>
    obtain ⟨j, rfl, hj, HR⟩ := hrel
    obtain ⟨hb1, hb2, hbw, hsz, k2, ka2, ki2, kj2, mn2, mx2, lz2, g2, kb2, ks2, kt2, hb3, hnd⟩ := id HR.out
    by_cases hlt : j < f
    · have hlt' : (j : Int) < (f : Int) := by omega
      obtain ⟨x0, x1, x2, x3, x4, x5, x6, xf⟩ := hb1.cells
      obtain ⟨y0, y1, y2, y3, y4, y5, y6, yf⟩ := hb3.cells
      have b4 := below_new wr (.cells #[.int .i64 k, .slice ka ki kj, .int .i64 mn, .int .i64 mx, .bool lz, .int .i64 g, .slice kb ks kt, .int .i64 k2, .slice ka2 ki2 kj2, .int .i64 mn2, .int .i64 mx2, .bool lz2, .int .i64 g2, .slice kb2 ks2 kt2] 29)
      have e4 : (wr.alloc (.cells #[.int .i64 k, .slice ka ki kj, .int .i64 mn, .int .i64 mx, .bool lz, .int .i64 g, .slice kb ks kt, .int .i64 k2, .slice ka2 ki2 kj2, .int .i64 mn2, .int .i64 mx2, .bool lz2, .int .i64 g2, .slice kb2 ks2 kt2] 29)).heap.size = wr.heap.size + 1 := by simp
      have HB1 := Lib.hid (hb1.below b4)
      have HB2 := Lib.hid (hb2.below b4)
      have HB3 := Lib.hid (hb3.below b4)
      have HBW := Lib.hid (bvia hbw b4)
      have HSZ := Lib.hid hsz
      have HE4 := Lib.hid e4
      have hkw := HKK.out.mono (S' := fun b => S b ∨ (w.heap.size + 3 ≤ b ∧ b < (wr.alloc (.cells #[.int .i64 k, .slice ka ki kj, .int .i64 mn, .int .i64 mx, .bool lz, .int .i64 g, .slice kb ks kt, .int .i64 k2, .slice ka2 ki2 kj2, .int .i64 mn2, .int .i64 mx2, .bool lz2, .int .i64 g2, .slice kb2 ks2 kt2] 29)).heap.size)) (fun b hb => ⟨.inl hb, (bvia hbw b4).block b (HS0.out b hb)⟩)
      have hnw := hnd.mono (S' := fun b => S b ∨ (w.heap.size + 3 ≤ b ∧ b < (wr.alloc (.cells #[.int .i64 k, .slice ka ki kj, .int .i64 mn, .int .i64 mx, .bool lz, .int .i64 g, .slice kb ks kt, .int .i64 k2, .slice ka2 ki2 kj2, .int .i64 mn2, .int .i64 mx2, .bool lz2, .int .i64 g2, .slice kb2 ks2 kt2] 29)).heap.size)) (fun b hb => ⟨by
        rcases hb with hb | hb
        · exact .inl hb
        · exact .inr ⟨hb.1, by omega⟩, b4.block b (by
        rcases hb with hb | hb
        · have := HS0.out b hb; omega
        · omega)⟩)
      have HK2 := Lib.hid (kids_two (S := fun b => S b ∨ (w.heap.size + 3 ≤ b ∧ b < (wr.alloc (.cells #[.int .i64 k, .slice ka ki kj, .int .i64 mn, .int .i64 mx, .bool lz, .int .i64 g, .slice kb ks kt, .int .i64 k2, .slice ka2 ki2 kj2, .int .i64 mn2, .int .i64 mx2, .bool lz2, .int .i64 g2, .slice kb2 ks2 kt2] 29)).heap.size)) (new_block wr (.cells #[.int .i64 k, .slice ka ki kj, .int .i64 mn, .int .i64 mx, .bool lz, .int .i64 g, .slice kb ks kt, .int .i64 k2, .slice ka2 ki2 kj2, .int .i64 mn2, .int .i64 mx2, .bool lz2, .int .i64 g2, .slice kb2 ks2 kt2] 29)) (.inr ⟨by omega, by omega⟩) hkw hnw)
      have HZN := Lib.hid (perh_nsz z n j)
      clear hkw hnw b4 hnd hb1 hb2 hb3 e4
      have HS4 := Lib.hid (show ∀ b, (S b ∨ (w.heap.size + 3 ≤ b ∧ b < (wr.alloc (.cells #[.int .i64 k, .slice ka ki kj, .int .i64 mn, .int .i64 mx, .bool lz, .int .i64 g, .slice kb ks kt, .int .i64 k2, .slice ka2 ki2 kj2, .int .i64 mn2, .int .i64 mx2, .bool lz2, .int .i64 g2, .slice kb2 ks2 kt2] 29)).heap.size)) → b < (wr.alloc (.cells #[.int .i64 k, .slice ka ki kj, .int .i64 mn, .int .i64 mx, .bool lz, .int .i64 g, .slice kb ks kt, .int .i64 k2, .slice ka2 ki2 kj2, .int .i64 mn2, .int .i64 mx2, .bool lz2, .int .i64 g2, .slice kb2 ks2 kt2] 29)).heap.size from fun b hb => by
        rcases hb with hb | hb
        · have := HS0.out b hb; have := HE4.out; omega
        · exact hb.2)
      have hfl : (flatK 6 [n, Sx.perh j z n]).length ≤ 600000 := by
        have h1 := flat6_len [n, Sx.perh j z n]
        have h2 := HZN.out
        have h3 : j * (nsz n + 2) ≤ 20 * 402 := Nat.mul_le_mul (by omega) (by omega)
        rw [nszs, nszs, nszs] at h1
        omega
      have HC := Lib.hid (show Calls Tryz.prog 34 #[.slice (some ⟨wr.heap.size, 0, none⟩) 2 2] (wr.alloc (.cells #[.int .i64 k, .slice ka ki kj, .int .i64 mn, .int .i64 mx, .bool lz, .int .i64 g, .slice kb ks kt, .int .i64 k2, .slice ka2 ki2 kj2, .int .i64 mn2, .int .i64 mx2, .bool lz2, .int .i64 g2, .slice kb2 ks2 kt2] 29)) _ from sseq_any [n, Sx.perh j z n] (some ⟨wr.heap.size, 0, none⟩) 2 _ _ HK2.out HS4.out (by simp) hfl)
      clear hfl HZN
      go_wp2_with fail
      with_reducible refine HC.out.mono ?_
      rintro e w5 ⟨u5, rfl, hu5, hb5⟩
      obtain ⟨k5, vc5, mn5, mx5, lz5, g5, vl5, rfl, hn5⟩ := hu5
      obtain ⟨ka5, ki5, kj5, kb5, ks5, kt5, rfl, rfl⟩ := nodeS_shape hn5
      generalize (wr.alloc (.cells #[.int .i64 k, .slice ka ki kj, .int .i64 mn, .int .i64 mx, .bool lz, .int .i64 g, .slice kb ks kt, .int .i64 k2, .slice ka2 ki2 kj2, .int .i64 mn2, .int .i64 mx2, .bool lz2, .int .i64 g2, .slice kb2 ks2 kt2] 29)) = w4 at *
      have HB51 := Lib.hid (HB1.out.below hb5)
      have HB52 := Lib.hid (HB2.out.below hb5)
      have HB53 := Lib.hid (HB3.out.below hb5)
      have HBW5 := Lib.hid (bvia HBW.out hb5)
      have HSZ5 := Lib.hid (hb5.size)
      have HN5 := Lib.hid hn5
      have HS5 := Lib.hid (show ∀ b, Joined (fun b => S b ∨ (w.heap.size + 3 ≤ b ∧ b < w4.heap.size)) w4 w5 b → b < w5.heap.size from fun b hb => Joined.lt HS4.out HSZ5.out hb)
      clear HC hn5 hb5 HK2 x0 x1 x2 x3 x4 x5 x6 xf y0 y1 y2 y3 y4 y5 y6 yf
      go_wp2_with fail
      have HC := Lib.hid (again_any 0 1 z k5 ka5 ki5 kj5 mn5 mx5 lz5 g5 kb5 ks5 kt5 _ _ w5 HN5.out HS5.out ⟨by decide, by decide⟩ ⟨by decide, by decide⟩)
      unfold ndv at HC ⊢
      with_reducible refine HC.out.mono ?_
      rintro e w6 ⟨u6, rfl, hu6, hb6⟩
      obtain ⟨k6, vc6, mn6, mx6, lz6, g6, vl6, rfl, hn6⟩ := hu6
      obtain ⟨ka6, ki6, kj6, kb6, ks6, kt6, rfl, rfl⟩ := nodeS_shape hn6
      have hb63 := HB53.out.below hb6
      have hbw6 := bvia HBW5.out hb6
      have hsz6 := hb6.size
      have hsz5 := HSZ5.out
      have he4 := HE4.out
      have hsz3 := HSZ.out
      have HFIN := Lib.hid (show PH S w (set7 w6 (w.heap.size + 1 + 1) (.int .i64 k6) (.slice ka6 ki6 kj6) (.int .i64 mn6) (.int .i64 mx6) (.bool lz6) (.int .i64 g6) (.slice kb6 ks6 kt6)) n k ka ki kj mn mx lz g kb ks kt z (j + 1) from
        ⟨(HB51.out.below hb6).other (by omega) _ _ _ _ _ _ _, (HB52.out.below hb6).other (by omega) _ _ _ _ _ _ _, below_set7 hbw6 (by omega) _ _ _ _ _ _ _, by rw [set7_size]; omega, k6, ka6, ki6, kj6, mn6, mx6, lz6, g6, kb6, ks6, kt6, hb63.set7 _ _ _ _ _ _ _,
          hn6.mono (fun b hb => by
            have h1 : S b ∨ (w.heap.size + 3 ≤ b ∧ b < w6.heap.size) := by
              rcases hb with hb | hb
              · rcases hb with hb | hb
                · rcases hb with hb | hb
                  · exact .inl hb
                  · exact .inr ⟨hb.1, by omega⟩
                · exact .inr ⟨by have := hb.1; omega, by have := hb.2; omega⟩
              · exact .inr ⟨by have := hb.1; omega, hb.2⟩
            refine ⟨by rw [set7_size]; exact h1, set7_block _ _ _ _ _ _ _ _ _ b ?_⟩
            rcases h1 with h | h
            · have := HS0.out b h; omega
            · omega)⟩)
      obtain ⟨y0, y1, y2, y3, y4, y5, y6, yf⟩ := hb63.cells
      clear HC hn6 hb6 hb63 hbw6 hsz6 hsz5 he4 hsz3 HB1 HB2 HB3 HBW HSZ HE4 HB51 HB52 HB53 HBW5 HSZ5 HN5 HS5 HS4
      unfold ndv
      go_wp2_with fail
      exact ⟨⟨j + 1, by go_num, by omega, HFIN⟩, by simp [intOf]; omega⟩
    · obtain rfl : j = f := by omega
      have hlt' : ¬ ((j : Int) < (j : Int)) := by omega
      obtain ⟨x0, x1, x2, x3, x4, x5, x6, xf⟩ := hb3.cells
      obtain ⟨y0, y1, y2, y3, y4, y5, y6, yf⟩ := hb2.cells
      have HB := Lib.hid hbw
      have HSZ := Lib.hid hsz
      have HND := Lib.hid (hnd.mono (S' := fun b => (S b ∨ (w.heap.size ≤ b ∧ b < wr.heap.size)) ∧ b ≠ w.heap.size + 1) (fun b hb => ⟨by
        rcases hb with hb | hb
        · exact ⟨.inl hb, by have := HS0.out b hb; omega⟩
        · exact ⟨.inr ⟨by omega, hb.2⟩, by omega⟩, rfl⟩))
      clear hb1 hb2 hb3 hbw hsz hnd HR HP
      have h7 := set7_seven wr (w.heap.size + 1) k2 mn2 mx2 g2 lz2 (.slice ka2 ki2 kj2) (.slice kb2 ks2 kt2) y0 y1 y2 y3 y4 y5 y6
      have HN := Lib.hid (show NodeVS (Joined S w (set7 wr (w.heap.size + 1) (.int .i64 k2) (.slice ka2 ki2 kj2) (.int .i64 mn2) (.int .i64 mx2) (.bool lz2) (.int .i64 g2) (.slice kb2 ks2 kt2))) (set7 wr (w.heap.size + 1) (.int .i64 k2) (.slice ka2 ki2 kj2) (.int .i64 mn2) (.int .i64 mx2) (.bool lz2) (.int .i64 g2) (.slice kb2 ks2 kt2)) (ndv k2 (.slice ka2 ki2 kj2) mn2 mx2 lz2 g2 (.slice kb2 ks2 kt2)) (Sx.perh j z n) from node_laid HS0.out HB.out.size HND.out)
      have HBF := Lib.hid (below_set7 HB.out (by omega : w.heap.size ≤ w.heap.size + 1) (.int .i64 k2) (.slice ka2 ki2 kj2) (.int .i64 mn2) (.int .i64 mx2) (.bool lz2) (.int .i64 g2) (.slice kb2 ks2 kt2))
      go_wp2_with fail
      change bodyPost _ _ _ _ _ (set7 wr (w.heap.size + 1) (.int .i64 k2) (.slice ka2 ki2 kj2) (.int .i64 mn2) (.int .i64 mx2) (.bool lz2) (.int .i64 g2) (.slice kb2 ks2 kt2))
      obtain ⟨z0, z1, z2, z3, z4, z5, z6⟩ := h7
      simp only [Nat.zero_add] at z0 z1 z2 z3 z4 z5 z6
      generalize (set7 wr (w.heap.size + 1) (.int .i64 k2) (.slice ka2 ki2 kj2) (.int .i64 mn2) (.int .i64 mx2) (.bool lz2) (.int .i64 g2) (.slice kb2 ks2 kt2)) = wf at *
      exact bodyPost_ret (v := ndv k2 (.slice ka2 ki2 kj2) mn2 mx2 lz2 g2 (.slice kb2 ks2 kt2)) (by unfold ndv; simp [results, Tryz.results149, go_sem, *]) rfl ⟨_, rfl, HN.out, HBF.out⟩
end Go.Proofs.YtdoapojmenojoaaGreatDoor
end
