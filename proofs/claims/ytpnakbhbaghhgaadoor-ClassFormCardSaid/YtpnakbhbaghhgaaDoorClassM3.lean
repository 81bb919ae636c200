/- Plain facts about unions, what is not, and ranges cut in two. -/
import Derived.Test.YtpnakbhbaghhgaaDoorClassM2
set_option linter.unusedVariables false
namespace Go.Proofs.YtpnakbhbaghhgaaDoor.Cl

theorem memM_nil (x : Int) : ¬ memM [] x := fun ⟨r, h, _⟩ => by cases h
theorem memM_app (a b : List Rg) (x : Int) : memM (a ++ b) x ↔ memM a x ∨ memM b x := by
  constructor
  · rintro ⟨s, hs, hm, hx⟩
    rcases List.mem_append.1 hs with hs | hs
    · exact .inl ⟨s, hs, hm, hx⟩
    · exact .inr ⟨s, hs, hm, hx⟩
  · rintro (⟨s, hs, hm, hx⟩ | ⟨s, hs, hm, hx⟩)
    · exact ⟨s, List.mem_append_left _ hs, hm, hx⟩
    · exact ⟨s, List.mem_append_right _ hs, hm, hx⟩
theorem memM_one (r : Rg) (x : Int) : memM [r] x ↔ may r ∧ inn r x := by
  constructor
  · rintro ⟨s, hs, hm, hx⟩
    obtain rfl := List.mem_singleton.1 hs
    exact ⟨hm, hx⟩
  · rintro ⟨hm, hx⟩
    exact ⟨r, List.mem_singleton.2 rfl, hm, hx⟩
theorem mem_in {l : List Rg} (h : NF l) {x : Int} (hx : mem l x) : 0 ≤ x ∧ x ≤ 1114111 := by
  obtain ⟨r, hr, hi⟩ := hx
  have := h.2 r hr
  unfold may at this
  unfold inn at hi
  omega
theorem mem_union {a b : List Rg} (ha : NF a) (hb : NF b) (x : Int) : mem (of (a ++ b)) x ↔ mem a x ∨ mem b x := by
  rw [of_mem, memM_app, memM_nf ha, memM_nf hb]
theorem mem_nots {a : List Rg} (ha : NF a) (x : Int) : mem (nots a) x ↔ (0 ≤ x ∧ x ≤ 1114111 ∧ ¬ mem a x) := by
  rw [(nots_spec a).2 x, memM_nf ha]
theorem nots_nots {a : List Rg} (ha : NF a) : nots (nots a) = a := nf_unique (nots_spec _).1 ha fun x => by
  rw [mem_nots (nots_spec a).1, mem_nots ha]
  constructor
  · rintro ⟨h0, h1, h2⟩
    exact Classical.byContradiction fun h => h2 ⟨h0, h1, h⟩
  · intro h
    have := mem_in ha h
    exact ⟨this.1, this.2, fun h' => h'.2.2 h⟩
theorem union_comm (a b : List Rg) : of (b ++ a) = of (a ++ b) := of_same fun x => by rw [memM_app, memM_app]; exact Or.comm
theorem union_not {a : List Rg} (ha : NF a) : of (a ++ nots a) = nots [] := nf_unique (of_nf _) (nots_spec _).1 fun x => by
  rw [mem_union ha (nots_spec a).1, mem_nots ha, (nots_spec []).2 x]
  constructor
  · rintro (h | h)
    · have := mem_in ha h
      exact ⟨this.1, this.2, memM_nil x⟩
    · exact ⟨h.1, h.2.1, memM_nil x⟩
  · rintro ⟨h0, h1, _⟩
    exact Classical.byCases .inl fun h => .inr ⟨h0, h1, h⟩
theorem of_one {a b : Int} (h : may (a, b)) : of [(a, b)] = [(a, b)] := of_of ⟨List.pairwise_singleton _ _, fun r hr => by obtain rfl := List.mem_singleton.1 hr; exact h⟩
theorem nots_all : nots (nots []) = [] := nots_nots nf_nil
theorem memM_two {lo hi m : Int} (h0 : 0 ≤ lo) (h1 : hi ≤ 1114111) (h2 : lo ≤ m) (h3 : m < hi) (x : Int) : memM ([(m + 1, hi)] ++ [(lo, m)]) x ↔ memM [(lo, hi)] x := by
  rw [memM_app, memM_one, memM_one, memM_one]
  unfold may inn
  simp only
  omega
/- ranges taken from the last on, each cut or whole -/
def BackAt (l back : List Rg) (k : Nat) : Prop := ∀ x, memM back x ↔ memM (l.drop k) x
theorem backat_end (l : List Rg) : BackAt l [] l.length := fun x => by rw [List.drop_length]
theorem backat_more {l back p : List Rg} {k : Nat} {r : Rg} (h : BackAt l back (k + 1)) (hr : l[k]? = some r) (hp : ∀ x, memM p x ↔ memM [r] x) : BackAt l (back ++ p) k := fun x => by
  have hd : l.drop k = [r] ++ l.drop (k + 1) := by
    obtain ⟨hi, hv⟩ := List.getElem?_eq_some_iff.1 hr
    rw [List.drop_eq_getElem_cons hi, hv]; rfl
  rw [hd, memM_app, memM_app, hp x, h x]
  exact Or.comm
theorem backat_of {l back : List Rg} (h : BackAt l back 0) : of back = of l := of_same fun x => by rw [h x, List.drop_zero]
end Go.Proofs.YtpnakbhbaghhgaaDoor.Cl
