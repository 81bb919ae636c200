/- My own small tools: bytes in memory, conversions. -/
import Derived.Test.YtpnakbhbaghhgaaDoorRows
import Derived.WalkKit
import Derived.WalkSpells
import Derived.WalkLawsBesides
import Derived.Lib.Hide
import Derived.Below
import Derived.OwnWalk
import Derived.Laws.IdiomStrings
import Derived.Laws.MakeOwn
import Derived.Laws.OwnMore
set_option linter.unusedVariables false
namespace Go.Proofs.YtpnakbhbaghhgaaDoor
open Go.RowKit

theorem ret_bool {a b : Bool} (h : a = b) : Ending.returned (.bool a) = .returned (.bool b) := by rw [h]
theorem ret_int {k : IntKind} {a b : Int} (h : a = b) : Ending.returned (.int k a) = .returned (.int k b) := by rw [h]
theorem val_int {k : IntKind} {a b : Int} (h : a = b) : Value.int k a = .int k b := by rw [h]
theorem u8_lt (c : UInt8) : (0 : Int) ≤ (c.toNat : Int) ∧ (c.toNat : Int) ≤ 255 := by have := c.toNat_lt; omega

/- the bytes l stand in block g from off on -/
def Bts (w : World) (g off : Nat) (l : List UInt8) : Prop :=
  ∀ j (h : j < l.length), w.cell? ⟨g, off + j, none⟩ = some (.int .u8 (l[j].toNat : Int))
def Free (w : World) (g off n : Nat) : Prop := ∀ j, j < n → w.frozen? ⟨g, off + j, none⟩ = false
def Bts0 (w : World) (g : Nat) (l : List UInt8) : Prop := Bts w g 0 l ∧ Free w g 0 l.length

theorem Bts.get {w : World} {g off : Nat} {l : List UInt8} (h : Bts w g off l) (j : Nat) (hj : j < l.length) {x : UInt8} (hx : l[j] = x) : w.cell? ⟨g, off + j, none⟩ = some (.int .u8 (x.toNat : Int)) := by
  subst hx; exact h j hj
theorem Bts0.get {w : World} {g : Nat} {l : List UInt8} (h : Bts0 w g l) (j : Nat) (hj : j < l.length) {x : UInt8} (hx : l[j] = x) : w.cell? ⟨g, j, none⟩ = some (.int .u8 (x.toNat : Int)) := by
  have := h.1.get j hj hx; simpa using this
theorem Bts0.free {w : World} {g : Nat} {l : List UInt8} (h : Bts0 w g l) (j : Nat) (hj : j < l.length) : w.frozen? ⟨g, j, none⟩ = false := by
  have := h.2 j hj; simpa using this
theorem frozen_setCell (w : World) (a b : Addr) (v : Value) : (w.setCell a v).frozen? b = w.frozen? b := by
  first | exact World.frozen?_setCell .. | simp
theorem Bts0.set {w : World} {g : Nat} {l : List UInt8} (h : Bts0 w g l) (k : Nat) (hk : k < l.length) (x : UInt8) :
    Bts0 (w.setCell ⟨g, k, none⟩ (.int .u8 (x.toNat : Int))) g (l.set k x) := by
  refine ⟨fun j hj => ?_, fun j hj => ?_⟩
  · have hj' : j < l.length := by simpa using hj
    by_cases e : k = j
    · subst e
      rw [show (0 : Nat) + k = k from by omega, World.cell?_setCell_same w _ _ (h.get k hk rfl)]
      simp
    · rw [World.cell?_setCell_other w _ _ _ (fun h' => e (by simpa using congrArg Addr.off h')), h.1 j hj']
      simp [e]
  · rw [frozen_setCell]; exact h.2 j (by simpa using hj)
/- '[]byte(s)' -/
theorem bytes_spec {P : Program} (w : World) (src dst e : TypeId) (s : ByteArray) (hs : P.underlying src = some .string) (hd : P.underlying dst = some (.slice e)) (he : P.underlying e = some (.int .u8)) :
    ∃ w1 cap, (convert src dst (.string s)).run P w = .ok (.slice (some ⟨w.heap.size, 0, none⟩) s.size cap) w1 ∧ s.size ≤ cap ∧ (s.size ≤ maxLen → cap ≤ maxLen) ∧ w1.heap.size = w.heap.size + 1 ∧
      Below w.heap.size w w1 ∧ Bts0 w1 w.heap.size s.data.toList := by
  refine ⟨_, _, run_bytes_of_string w src dst e s hs hd he, grownCap_ge .., (grownCap_le_maxLen w s.size 0 e), by simp, (Below.refl _ _).drew.alloc (by simp) _, ?_, ?_⟩
  · intro j hj
    have hj' : j < s.data.size := by simpa using hj
    rw [show (0 : Nat) + j = j from by omega]
    have := World.cell?_alloc_mark w.drew (bytesRow s (grownCap w s.size 0 e)) e ((bytesRow s (grownCap w s.size 0 e)).size, (bytesRow s (grownCap w s.size 0 e)).size + 1) j
    simp only [World.size_drew] at this
    rw [this, bytesRow_at s _ j hj']
    simp
  · intro j hj
    have hj' : j < s.data.size := by simpa using hj
    rw [show (0 : Nat) + j = j from by omega]
    have := World.frozen?_alloc_mark w.drew (bytesRow s (grownCap w s.size 0 e)) e ((bytesRow s (grownCap w s.size 0 e)).size) ((bytesRow s (grownCap w s.size 0 e)).size + 1) j
    simp only [World.size_drew] at this
    rw [this]
    have hz : s.data.size ≤ (bytesRow s (grownCap w s.size 0 e)).size := by simp [bytesRow]
    simp; omega
theorem Addr.add_defn (g o j : Nat) : (Addr.add ⟨g, o, none⟩ j : Addr) = ⟨g, o + j, none⟩ := by
  unfold Addr.add; split <;> simp_all
/- 'string(b)' -/
theorem string_at {P : Program} (w : World) (src dst e : TypeId) (g off n cap : Nat) (l : List UInt8) (hs : P.underlying src = some (.slice e)) (he : P.underlying e = some (.int .u8)) (hd : P.underlying dst = some .string)
    (hb : Bts w g off l) (hn : n = l.length) : (convert src dst (.slice (some ⟨g, off, none⟩) n cap)).run P w = .ok (.string ⟨l.toArray⟩) w := by
  subst hn
  exact run_convert_bytes_back w src dst e ⟨g, off, none⟩ cap l hs he hd (fun j hj => by have := hb j hj; rw [Addr.add_defn]; exact this)
theorem string_spec {P : Program} (w : World) (src dst e : TypeId) (g n cap : Nat) (l : List UInt8) (hs : P.underlying src = some (.slice e)) (he : P.underlying e = some (.int .u8)) (hd : P.underlying dst = some .string)
    (hb : Bts w g 0 l) (hn : n = l.length) : (convert src dst (.slice (some ⟨g, 0, none⟩) n cap)).run P w = .ok (.string ⟨l.toArray⟩) w := by
  exact string_at w src dst e g 0 n cap l hs he hd hb hn
theorem Bts.take {w : World} {g off : Nat} {l : List UInt8} (h : Bts w g off l) (n : Nat) : Bts w g off (l.take n) := by
  intro j hj
  have hj' : j < l.length := by simp at hj; omega
  rw [h j hj']; simp
/- a slice of bytes that came in: nil, or its bytes stand there -/
def BArg (w : World) (a : Option Addr) (len cap : Nat) (l : List UInt8) : Prop :=
  (len = 0 ∧ cap = 0 ∧ l = []) ∨ ∃ g off, a = some ⟨g, off, none⟩ ∧ l.length = len ∧ len ≤ cap ∧ cap ≤ 140737488351232 ∧ Bts w g off l
theorem barg_of {w : World} {x : Addr} {len cap : Nat} {zs : List Int} (hl : len ≤ cap) (hz : zs.length = cap) (hc : cap ≤ 140737488351232)
    (hcell : ∀ i, i < zs.length → w.cell? (x.add i) = some (.int .u8 (zs.getD i 0))) (hwz : ∀ n ∈ zs, (Lit.int .u8 n).wf = true) : ∃ l, BArg w (some x) len cap l := by
  by_cases h0 : cap = 0
  · exact ⟨[], .inl ⟨by omega, h0, rfl⟩⟩
  · obtain ⟨g, off, spot⟩ := x
    have hspot : spot = none := by simpa [Addr.add] using World.cell?_spot (hcell 0 (by omega))
    subst hspot
    refine ⟨(zs.take len).map fun n => UInt8.ofNat n.toNat, .inr ⟨g, off, rfl, by simp; omega, hl, hc, fun j hj => ?_⟩⟩
    have hj' : j < zs.length := by simp at hj; omega
    have hw := hwz _ (List.getElem_mem hj')
    have hb : 0 ≤ zs[j] ∧ zs[j] ≤ 255 := by simpa [Lit.wf, IntKind.min, IntKind.max, IntKind.signed, IntKind.bits] using hw
    have := hcell j hj'
    rw [Addr.add_defn] at this
    rw [this]
    simp [hj']
    omega
/- 'make([]byte, n)' -/
theorem toList_one (z : Value) (n : Nat) : (madeCells #[z] n).toList = List.replicate n z := toList_madeCells_one z n
theorem make_bytes_spec {P : Program} (w : World) (t e : TypeId) (n : Nat) (ht : P.underlying t = some (.slice e)) (hi : (P.info? e).map (fun i => (i.zero, i.size, i.bytes)) = some (some (.int .u8 0), 1, 1)) (hn : n ≤ 281474976710656) :
    ∃ w1, (Instr.makeSlice t (.int .i64 (n : Int)) (.int .i64 (n : Int))).run P w = .ok (.slice (some ⟨w.heap.size, 0, none⟩) n n) w1 ∧ w1.heap.size = w.heap.size + 1 ∧ Below w.heap.size w w1 ∧ Bts0 w1 w.heap.size (List.replicate n 0) := by
  obtain ⟨i, hi0, hz, hs, hb⟩ := info_parts hi
  have hr := run_make (P := P) w t e i (.int .u8 0) ht hi0 hz .i64 .i64 (n : Int) (n : Int) (by omega) (by omega) (by rw [hb]; omega) (by omega)
  rw [hs] at hr
  simp only [Int.toNat_natCast, Nat.mul_one] at hr
  refine ⟨_, hr, by simp, (Below.refl _ _).alloc (Nat.le_refl _) _, fun j hj => ?_, fun j hj => ?_⟩
  · have hj' : j < n := by simpa using hj
    rw [show (0 : Nat) + j = j from by omega, World.cell?_alloc_at _ _ _ _ rfl]
    have : (madeCells (Value.cells (.int .u8 0)) n).toList = List.replicate n (.int .u8 0) := toList_one _ n
    rw [← Array.getElem?_toList, this]
    simp [hj']
  · rw [show (0 : Nat) + j = j from by omega, World.frozen?_alloc_at _ _ _ _ rfl]
/- a row that the call made, of bytes -/
def u8s (l : List UInt8) : List Value := l.map fun b => .int .u8 (b.toNat : Int)
theorem u8s_append (l m : List UInt8) : u8s (l ++ m) = u8s l ++ u8s m := List.map_append
theorem u8s_length (l : List UInt8) : (u8s l).length = l.length := List.length_map _
theorem own_bts {w : World} {base : Nat} {e : TypeId} {v : Value} {n : Nat} {l : List UInt8} (h : w.ownsRow base e 1 v n (u8s l)) (hn : 0 < n) :
    ∃ g cap, v = .slice (some ⟨g, 0, none⟩) n cap ∧ base ≤ g ∧ Bts w g 0 l ∧ l.length = n := by
  have hl := h.1
  rw [u8s_length, Nat.mul_one] at hl
  rcases h.2 with ⟨_, h0⟩ | ⟨g, cap, cur, hv, hg, _⟩
  · omega
  · subst hv
    refine ⟨g, cap, rfl, hg, fun j hj => ?_, hl⟩
    have := h.cellAt j (by omega)
    rw [show (0 : Nat) + j = j from by omega, this]
    simp [u8s, hj]
theorem own_string {P : Program} {w : World} {base : Nat} {e : TypeId} {v : Value} {n : Nat} {l : List UInt8} (src dst : TypeId) (h : w.ownsRow base e 1 v n (u8s l)) (hn : 0 < n)
    (hs : P.underlying src = some (.slice e)) (he : P.underlying e = some (.int .u8)) (hd : P.underlying dst = some .string) : (convert src dst v).run P w = .ok (.string ⟨l.toArray⟩) w := by
  obtain ⟨g, cap, rfl, _, hb, hl⟩ := own_bts h hn
  exact string_spec w src dst e g n cap l hs he hd hb hl.symm
end Go.Proofs.YtpnakbhbaghhgaaDoor
