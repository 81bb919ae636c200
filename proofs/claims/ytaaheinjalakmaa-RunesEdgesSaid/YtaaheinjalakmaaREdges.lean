/- RunesEdges. -/
import Derived.Test.YtaaheinjalakmaaRRow
import Derived.Test.YtaaheinjalakmaaREdgesM
set_option linter.unusedVariables false
namespace Go.Proofs.Ytaaheinjalakmaa
open Go.RowKit

/- what is gathered of pieces in a round -/
def Pcs (b : Bool) (k n : Nat) (s : Value) (t : ByteArray) (l : List Rn.Pc) : Prop := s = .string t ∧ t.data.toList = Rn.catP l ∧ Rn.Goods l b ∧ l.length = k + n ∧ t.size ≤ 2 * (k + n)
theorem Pcs.more {b : Bool} {k n : Nat} {s : Value} {t : ByteArray} {l : List Rn.Pc} (h : Pcs b k n s t l) {q : ByteArray} {r : Nat} (hq : Rn.Good q.data.toList r) (hw : Rn.wordB (r : Int) = b) (hz : q.size ≤ 2) : Pcs b (k + 1) n (.string (t ++ q)) (t ++ q) (l ++ [(q.data.toList, r)]) := by
  refine ⟨rfl, ?_, Rn.goods_snoc h.2.2.1 hq hw, by rw [List.length_append, h.2.2.2.1]; simp; omega, by rw [ByteArray.size_append]; have := h.2.2.2.2; omega⟩
  rw [ByteArray.data_append, Array.toList_append, h.2.1, Rn.catP_app]
  simp [Rn.catP]
def Gath (b : Bool) (n m : Nat) (w : World) (s : Value) (wr : World) : Prop := ∃ (k : Nat) (t : ByteArray) (l : List Rn.Pc), k ≤ m ∧ Pcs b k n s t l ∧ Below w.heap.size w wr
set_option maxRecDepth 20000 in
set_option maxHeartbeats 8000000 in
theorem law_RunesEdges (a1 : Option Addr) (len1 cap1 : Nat) (l1 : List UInt8) (a2 : Option Addr) (len2 cap2 : Nat) (l2 : List UInt8) (a3 : Option Addr) (len3 cap3 : Nat) (l3 : List UInt8) (w : World)
    (hB1 : BArg w a1 len1 cap1 l1) (hB2 : BArg w a2 len2 cap2 l2) (hB3 : BArg w a3 len3 cap3 l3) :
    Calls Try.prog 6 #[.slice a1 len1 cap1, .slice a2 len2 cap2, .slice a3 len3 cap3] w fun e w' => e = .returned (.bool true) ∧ Below w.heap.size w w' := by
  have H1 := Lib.hid (bcells_of hB1)
  have H2 := Lib.hid (bcells_of hB2)
  have H3 := Lib.hid (bcells_of hB3)
  have z1 := (barg_len hB1).1
  have z2 := (barg_len hB2).1
  have z3 := (barg_len hB3).1
  clear hB1 hB2 hB3
  go_enter Try.func6, Try.ntmps6
  go_wp2_with fail
  refine (runes_examples _).mono ?_
  rintro e' w1 ⟨rfl, hw1⟩
  have bw := hw1
  clear hw1
  go_upto_block 0 with fail
  go_cut [8] from 20 to 39 (fun s wx => Gath false 0 6 w s wx)
  case first =>
    go_wp2_with fail
    go_loopw [8, 11] (fun s i wr => ∃ (k : Nat) (t : ByteArray) (l : List Rn.Pc), k ≤ len1 ∧ k ≤ 6 ∧ i = .int .i64 (k : Int) ∧ Pcs false k 0 s t l ∧ Below w.heap.size w wr) (fun _ i _ => len1 - (intOf i).toNat)
    case atStart => exact ⟨0, ⟨#[]⟩, [], by omega, by omega, rfl, ⟨rfl, rfl, Rn.goods_nil _, rfl, by decide⟩, bw⟩
    case round =>
      obtain ⟨k, t, l, hk, hk2, rfl, hP, b0⟩ := hrel
      obtain rfl := hP.1
      have hts : t.size ≤ 40 := by have := hP.2.2.2.2; omega
      have HP := Lib.hid hP
      clear hP bw
      by_cases hlt : k < len1 ∧ k < 6
      · obtain ⟨h1, h2⟩ := hlt
        rcases H1.out with h0 | ⟨g, off, rfl, hg, hc⟩
        · omega
        obtain ⟨c, c0, c1, hcc⟩ := hc k h1
        have hcc' := (b0.cell (p := ⟨g, off + k, none⟩) hg).trans hcc
        have bsz := b0.size
        have hgr : g < wr.heap.size := by omega
        clear hcc hc
        rcases (show c % 4 = 0 ∨ c % 4 = 1 ∨ c % 4 = 2 ∨ c % 4 = 3 by omega) with hm | hm | hm | hm
        · go_wp2_with fail
          go_roundw
          case rel => exact ⟨k + 1, _, _, by omega, by omega, by go_num, HP.out.more (q := ⟨#[32]⟩) (r := 32) (Rn.good_ascii (c := 32) (by decide)) (by decide) (by decide), b0.alloc b0.size _⟩
          case measure => simp [intOf]; omega
        · go_wp2_with fail
          go_roundw
          case rel => exact ⟨k + 1, _, _, by omega, by omega, by go_num, HP.out.more (q := ⟨#[45]⟩) (r := 45) (Rn.good_ascii (c := 45) (by decide)) (by decide) (by decide), b0.alloc b0.size _⟩
          case measure => simp [intOf]; omega
        · go_wp2_with fail
          go_roundw
          case rel => exact ⟨k + 1, _, _, by omega, by omega, by go_num, HP.out.more (q := ⟨#[195, 169]⟩) (r := 233) (Rn.good_e) (by decide) (by decide), b0.alloc b0.size _⟩
          case measure => simp [intOf]; omega
        · go_wp2_with fail
          go_roundw
          case rel => exact ⟨k + 1, _, _, by omega, by omega, by go_num, HP.out.more (q := ⟨#[255]⟩) (r := 65533) (Rn.good_ff) (by decide) (by decide), b0.alloc b0.size _⟩
          case measure => simp [intOf]; omega
      · rcases (show len1 ≤ k ∨ (k < len1 ∧ 6 ≤ k) by omega) with h1 | ⟨h1, h2⟩
        all_goals
          go_wp2_with fail
          go_meet
          case rel => exact ⟨k, t, l, by omega, HP.out, b0⟩
  case rest =>
    obtain ⟨k1, t1, lp1, hk1, hP1, bw⟩ := hcut
    obtain rfl := hP1.1
    have Q1 := Lib.hid hP1
    clear hP1
    go_upto_block 2 with fail
    go_cut [9] from 40 to 59 (fun s wx => Gath true 1 8 w s wx)
    case first =>
      go_wp2_with fail
      go_loopw [9, 12] (fun s i wr => ∃ (k : Nat) (t : ByteArray) (l : List Rn.Pc), k ≤ len2 ∧ k ≤ 8 ∧ i = .int .i64 (k : Int) ∧ Pcs true k 1 s t l ∧ Below w.heap.size w wr) (fun _ i _ => len2 - (intOf i).toNat)
      case atStart => exact ⟨0, ⟨#[120]⟩, [([120], 120)], by omega, by omega, rfl, ⟨rfl, rfl, Rn.goods_snoc (Rn.goods_nil _) (x := ([120], 120)) (Rn.good_ascii (c := 120) (by decide)) (by decide), rfl, by decide⟩, bw⟩
      case round =>
        obtain ⟨k, t, l, hk, hk2, rfl, hP, b0⟩ := hrel
        obtain rfl := hP.1
        have hts : t.size ≤ 40 := by have := hP.2.2.2.2; omega
        have HP := Lib.hid hP
        clear hP bw
        by_cases hlt : k < len2 ∧ k < 8
        · obtain ⟨h1, h2⟩ := hlt
          rcases H2.out with h0 | ⟨g, off, rfl, hg, hc⟩
          · omega
          obtain ⟨c, c0, c1, hcc⟩ := hc k h1
          have hcc' := (b0.cell (p := ⟨g, off + k, none⟩) hg).trans hcc
          have bsz := b0.size
          have hgr : g < wr.heap.size := by omega
          clear hcc hc
          rcases (show c % 8 = 0 ∨ c % 8 = 1 ∨ c % 8 = 2 ∨ c % 8 = 3 ∨ c % 8 = 4 ∨ c % 8 = 5 ∨ c % 8 = 6 ∨ c % 8 = 7 by omega) with hm | hm | hm | hm | hm | hm | hm | hm
          · have hix : ((⟨#[97, 98, 122, 65, 90, 48, 57, 95]⟩ : ByteArray)[0]'(by decide)).toNat = 97 := by decide
            have hcv := lit_str wr [97] (by decide)
            simp only [List.map_cons, List.map_nil, List.length_cons, List.length_nil] at hcv
            go_wp2_with fail
            go_roundw
            case rel => exact ⟨k + 1, _, _, by omega, by omega, by go_num, HP.out.more (q := ⟨#[97]⟩) (r := 97) (Rn.good_ascii (c := 97) (by decide)) (by decide) (by decide), b0.alloc b0.size _⟩
            case measure => simp [intOf]; omega
          · have hix : ((⟨#[97, 98, 122, 65, 90, 48, 57, 95]⟩ : ByteArray)[1]'(by decide)).toNat = 98 := by decide
            have hcv := lit_str wr [98] (by decide)
            simp only [List.map_cons, List.map_nil, List.length_cons, List.length_nil] at hcv
            go_wp2_with fail
            go_roundw
            case rel => exact ⟨k + 1, _, _, by omega, by omega, by go_num, HP.out.more (q := ⟨#[98]⟩) (r := 98) (Rn.good_ascii (c := 98) (by decide)) (by decide) (by decide), b0.alloc b0.size _⟩
            case measure => simp [intOf]; omega
          · have hix : ((⟨#[97, 98, 122, 65, 90, 48, 57, 95]⟩ : ByteArray)[2]'(by decide)).toNat = 122 := by decide
            have hcv := lit_str wr [122] (by decide)
            simp only [List.map_cons, List.map_nil, List.length_cons, List.length_nil] at hcv
            go_wp2_with fail
            go_roundw
            case rel => exact ⟨k + 1, _, _, by omega, by omega, by go_num, HP.out.more (q := ⟨#[122]⟩) (r := 122) (Rn.good_ascii (c := 122) (by decide)) (by decide) (by decide), b0.alloc b0.size _⟩
            case measure => simp [intOf]; omega
          · have hix : ((⟨#[97, 98, 122, 65, 90, 48, 57, 95]⟩ : ByteArray)[3]'(by decide)).toNat = 65 := by decide
            have hcv := lit_str wr [65] (by decide)
            simp only [List.map_cons, List.map_nil, List.length_cons, List.length_nil] at hcv
            go_wp2_with fail
            go_roundw
            case rel => exact ⟨k + 1, _, _, by omega, by omega, by go_num, HP.out.more (q := ⟨#[65]⟩) (r := 65) (Rn.good_ascii (c := 65) (by decide)) (by decide) (by decide), b0.alloc b0.size _⟩
            case measure => simp [intOf]; omega
          · have hix : ((⟨#[97, 98, 122, 65, 90, 48, 57, 95]⟩ : ByteArray)[4]'(by decide)).toNat = 90 := by decide
            have hcv := lit_str wr [90] (by decide)
            simp only [List.map_cons, List.map_nil, List.length_cons, List.length_nil] at hcv
            go_wp2_with fail
            go_roundw
            case rel => exact ⟨k + 1, _, _, by omega, by omega, by go_num, HP.out.more (q := ⟨#[90]⟩) (r := 90) (Rn.good_ascii (c := 90) (by decide)) (by decide) (by decide), b0.alloc b0.size _⟩
            case measure => simp [intOf]; omega
          · have hix : ((⟨#[97, 98, 122, 65, 90, 48, 57, 95]⟩ : ByteArray)[5]'(by decide)).toNat = 48 := by decide
            have hcv := lit_str wr [48] (by decide)
            simp only [List.map_cons, List.map_nil, List.length_cons, List.length_nil] at hcv
            go_wp2_with fail
            go_roundw
            case rel => exact ⟨k + 1, _, _, by omega, by omega, by go_num, HP.out.more (q := ⟨#[48]⟩) (r := 48) (Rn.good_ascii (c := 48) (by decide)) (by decide) (by decide), b0.alloc b0.size _⟩
            case measure => simp [intOf]; omega
          · have hix : ((⟨#[97, 98, 122, 65, 90, 48, 57, 95]⟩ : ByteArray)[6]'(by decide)).toNat = 57 := by decide
            have hcv := lit_str wr [57] (by decide)
            simp only [List.map_cons, List.map_nil, List.length_cons, List.length_nil] at hcv
            go_wp2_with fail
            go_roundw
            case rel => exact ⟨k + 1, _, _, by omega, by omega, by go_num, HP.out.more (q := ⟨#[57]⟩) (r := 57) (Rn.good_ascii (c := 57) (by decide)) (by decide) (by decide), b0.alloc b0.size _⟩
            case measure => simp [intOf]; omega
          · have hix : ((⟨#[97, 98, 122, 65, 90, 48, 57, 95]⟩ : ByteArray)[7]'(by decide)).toNat = 95 := by decide
            have hcv := lit_str wr [95] (by decide)
            simp only [List.map_cons, List.map_nil, List.length_cons, List.length_nil] at hcv
            go_wp2_with fail
            go_roundw
            case rel => exact ⟨k + 1, _, _, by omega, by omega, by go_num, HP.out.more (q := ⟨#[95]⟩) (r := 95) (Rn.good_ascii (c := 95) (by decide)) (by decide) (by decide), b0.alloc b0.size _⟩
            case measure => simp [intOf]; omega
        · rcases (show len2 ≤ k ∨ (k < len2 ∧ 8 ≤ k) by omega) with h1 | ⟨h1, h2⟩
          all_goals
            go_wp2_with fail
            go_meet
            case rel => exact ⟨k, t, l, by omega, HP.out, b0⟩
    case rest =>
      obtain ⟨k2, t2, lp2, hk2, hP2, bw⟩ := hcut
      obtain rfl := hP2.1
      have Q2 := Lib.hid hP2
      clear hP2
      go_upto_block 4 with fail
      go_cut [10] from 60 to 79 (fun s wx => Gath false 0 6 w s wx)
      case first =>
        go_wp2_with fail
        go_loopw [10, 13] (fun s i wr => ∃ (k : Nat) (t : ByteArray) (l : List Rn.Pc), k ≤ len3 ∧ k ≤ 6 ∧ i = .int .i64 (k : Int) ∧ Pcs false k 0 s t l ∧ Below w.heap.size w wr) (fun _ i _ => len3 - (intOf i).toNat)
        case atStart => exact ⟨0, ⟨#[]⟩, [], by omega, by omega, rfl, ⟨rfl, rfl, Rn.goods_nil _, rfl, by decide⟩, bw⟩
        case round =>
          obtain ⟨k, t, l, hk, hk2, rfl, hP, b0⟩ := hrel
          obtain rfl := hP.1
          have hts : t.size ≤ 40 := by have := hP.2.2.2.2; omega
          have HP := Lib.hid hP
          clear hP bw
          by_cases hlt : k < len3 ∧ k < 6
          · obtain ⟨h1, h2⟩ := hlt
            rcases H3.out with h0 | ⟨g, off, rfl, hg, hc⟩
            · omega
            obtain ⟨c, c0, c1, hcc⟩ := hc k h1
            have hcc' := (b0.cell (p := ⟨g, off + k, none⟩) hg).trans hcc
            have bsz := b0.size
            have hgr : g < wr.heap.size := by omega
            clear hcc hc
            rcases (show c % 4 = 0 ∨ c % 4 = 1 ∨ c % 4 = 2 ∨ c % 4 = 3 by omega) with hm | hm | hm | hm
            · go_wp2_with fail
              go_roundw
              case rel => exact ⟨k + 1, _, _, by omega, by omega, by go_num, HP.out.more (q := ⟨#[32]⟩) (r := 32) (Rn.good_ascii (c := 32) (by decide)) (by decide) (by decide), b0.alloc b0.size _⟩
              case measure => simp [intOf]; omega
            · go_wp2_with fail
              go_roundw
              case rel => exact ⟨k + 1, _, _, by omega, by omega, by go_num, HP.out.more (q := ⟨#[45]⟩) (r := 45) (Rn.good_ascii (c := 45) (by decide)) (by decide) (by decide), b0.alloc b0.size _⟩
              case measure => simp [intOf]; omega
            · go_wp2_with fail
              go_roundw
              case rel => exact ⟨k + 1, _, _, by omega, by omega, by go_num, HP.out.more (q := ⟨#[195, 169]⟩) (r := 233) (Rn.good_e) (by decide) (by decide), b0.alloc b0.size _⟩
              case measure => simp [intOf]; omega
            · go_wp2_with fail
              go_roundw
              case rel => exact ⟨k + 1, _, _, by omega, by omega, by go_num, HP.out.more (q := ⟨#[255]⟩) (r := 65533) (Rn.good_ff) (by decide) (by decide), b0.alloc b0.size _⟩
              case measure => simp [intOf]; omega
          · rcases (show len3 ≤ k ∨ (k < len3 ∧ 6 ≤ k) by omega) with h1 | ⟨h1, h2⟩
            all_goals
              go_wp2_with fail
              go_meet
              case rel => exact ⟨k, t, l, by omega, HP.out, b0⟩
      case rest =>
        obtain ⟨k3, t3, lp3, hk3, hP3, bw⟩ := hcut
        obtain rfl := hP3.1
        have Q3 := Lib.hid hP3
        clear hP3

        have s1 : t1.size = (Rn.catP lp1).length := Rn.size_app Q1.out.2.1
        have s2 : t2.size = (Rn.catP lp2).length := Rn.size_app Q2.out.2.1
        have hM : Rn.Mid (t1 ++ t2 ++ t3) lp1 lp2 lp3 := ⟨Q1.out.2.2.1, Q2.out.2.2.1, Q3.out.2.2.1, by rw [ByteArray.data_append, ByteArray.data_append, Array.toList_append, Array.toList_append, Q1.out.2.1, Q2.out.2.1, Q3.out.2.1, Rn.catP_app, Rn.catP_app], by have := Q2.out.2.2.2.1; omega⟩
        have hz1 : t1.size ≤ 12 := by have := Q1.out.2.2.2.2; omega
        have hz2 : t2.size ≤ 18 := by have := Q2.out.2.2.2.2; omega
        have hz3 : t3.size ≤ 12 := by have := Q3.out.2.2.2.2; omega
        have hzT : (t1 ++ t2 ++ t3).size = t1.size + t2.size + t3.size := by rw [ByteArray.size_append, ByteArray.size_append]
        have hed : ∀ (x : Int) (c : Bool), decide (x = t1.size ∨ x = t1.size + t2.size) = c → ∃ r a z b r' a' z' b', Rn.EndsT (t1 ++ t2 ++ t3) x r a z b ∧ Rn.BeginsT (t1 ++ t2 ++ t3) x r' a' z' b' ∧ ((b && Rn.wordB r) != (b' && Rn.wordB r')) = c := fun x c hc => by
          obtain ⟨r, a, z, b, hE⟩ := Rn.endsT_some (t1 ++ t2 ++ t3) x
          obtain ⟨r', a', z', b', hB⟩ := Rn.beginsT_some (t1 ++ t2 ++ t3) x
          exact ⟨r, a, z, b, r', a', z', b', hE, hB, by rw [Rn.edge_val hM hE hB, ← s1, ← s2]; exact hc⟩
        have HED := Lib.hid hed
        obtain ⟨T, hT⟩ : ∃ T, t1 ++ t2 ++ t3 = T := ⟨_, rfl⟩
        rw [hT] at hzT HED
        have HZ := Lib.hid hzT
        have hTs : T.size ≤ 42 := by omega
        have hTi : (t1.size : Int) + (t2.size : Int) ≤ (T.size : Int) := by omega
        clear hed hM s1 s2 Q1 Q2 Q3 hzT
        go_wp2_with fail
        go_loopw [15, 16] (fun i _ wr => ∃ k : Nat, k ≤ T.size + 1 ∧ i = .int .i64 (k : Int) ∧ Below w.heap.size w wr) (fun i _ _ => T.size + 1 - (intOf i).toNat)
        case atStart => exact ⟨0, by omega, rfl, bw⟩
        case round =>
          obtain ⟨k, hk, rfl, br⟩ := hrel
          clear bw
          by_cases hlt : k ≤ T.size
          · have hkl : (k : Int) ≤ (T.size : Int) := by omega
            rcases (show k = t1.size ∨ (¬ k = t1.size ∧ k = t1.size + t2.size) ∨ (¬ k = t1.size ∧ ¬ k = t1.size + t2.size) by omega) with c1 | ⟨c1, c2⟩ | ⟨c1, c2⟩
            · obtain ⟨r, a, z, b, r', a', z', b', hE, hB, hv⟩ := HED.out (k : Int) true (decide_eq_true (.inl (by omega)))
              have he1 : ((k : Int) == (t1.size : Int)) = true := by simp; omega
              have he2 : (k == t1.size) = true := by simp; omega
              have HE := Lib.hid hE
              have HB := Lib.hid hB
              have HV := Lib.hid hv
              clear hE hB hv c1
              go_wp2_with fail
              refine (edge_at T _ _ _ _ _ _ _ _ _ true _ (by omega) (by omega) (by omega) HE.out HB.out HV.out).mono ?_
              rintro e w2 ⟨rfl, hw2⟩
              have b2 := bvia br hw2
              go_wp2_with fail
              go_roundw
              case rel => exact ⟨k + 1, by omega, by go_num, b2⟩
              case measure => simp [intOf]; omega
            · obtain ⟨r, a, z, b, r', a', z', b', hE, hB, hv⟩ := HED.out (k : Int) true (decide_eq_true (.inr (by omega)))
              have he1 : ((k : Int) == (t1.size : Int)) = false := by simp; omega
              have he2 : (k == t1.size) = false := by simp; omega
              have he3 : ((k : Int) == (t1.size : Int) + (t2.size : Int)) = true := by simp; omega
              have HE := Lib.hid hE
              have HB := Lib.hid hB
              have HV := Lib.hid hv
              clear hE hB hv c1 c2
              go_wp2_with fail
              refine (edge_at T _ _ _ _ _ _ _ _ _ true _ (by omega) (by omega) (by omega) HE.out HB.out HV.out).mono ?_
              rintro e w2 ⟨rfl, hw2⟩
              have b2 := bvia br hw2
              go_wp2_with fail
              go_roundw
              case rel => exact ⟨k + 1, by omega, by go_num, b2⟩
              case measure => simp [intOf]; omega
            · obtain ⟨r, a, z, b, r', a', z', b', hE, hB, hv⟩ := HED.out (k : Int) false (decide_eq_false (by omega))
              have he1 : ((k : Int) == (t1.size : Int)) = false := by simp; omega
              have he2 : (k == t1.size) = false := by simp; omega
              have he3 : ((k : Int) == (t1.size : Int) + (t2.size : Int)) = false := by simp; omega
              have HE := Lib.hid hE
              have HB := Lib.hid hB
              have HV := Lib.hid hv
              clear hE hB hv c1 c2
              go_wp2_with fail
              refine (edge_at T _ _ _ _ _ _ _ _ _ false _ (by omega) (by omega) (by omega) HE.out HB.out HV.out).mono ?_
              rintro e w2 ⟨rfl, hw2⟩
              have b2 := bvia br hw2
              go_wp2_with fail
              go_roundw
              case rel => exact ⟨k + 1, by omega, by go_num, b2⟩
              case measure => simp [intOf]; omega
          · obtain ⟨r, a, z, b, r', a', z', b', hE, hB, hv⟩ := HED.out (-1) false (decide_eq_false (by omega))
            obtain ⟨r2, a4, z4, b4, r2', a4', z4', b4', hE2, hB2, hv2⟩ := HED.out ((T.size : Int) + 1) false (decide_eq_false (by have := HZ.out; omega))
            have HE := Lib.hid hE
            have HB := Lib.hid hB
            have HV := Lib.hid hv
            have HE2 := Lib.hid hE2
            have HB2 := Lib.hid hB2
            have HV2 := Lib.hid hv2
            clear hE hB hv hE2 hB2 hv2
            go_wp2_with fail
            refine (edge_at T _ _ _ _ _ _ _ _ _ false _ (by omega) (by omega) (by omega) HE.out HB.out HV.out).mono ?_
            rintro e w2 ⟨rfl, hw2⟩
            have b2 := bvia br hw2
            clear hw2 br
            go_wp2_with fail
            refine (edge_at T _ _ _ _ _ _ _ _ _ false _ (by omega) (by omega) (by omega) HE2.out HB2.out HV2.out).mono ?_
            rintro e w3 ⟨rfl, hw3⟩
            have b3 := bvia b2 hw3
            go_wp2_with fail
            go_ret
            exact ⟨rfl, b3⟩
end Go.Proofs.Ytaaheinjalakmaa
