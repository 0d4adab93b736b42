/- Records that came in: slices of them, one of them; over any program. -/
import Derived.Test.YtblfhonfjljndaaDoorRecB
namespace Go.Proofs.YtblfhonfjljndaaDoor
open Go.RowKit Go.WideShapes Go.ChangeShapes Go.Deep
set_option maxRecDepth 100000

section
variable {H : Type} {enc : TypeId × Value → H} {P : Program} {W : World} {base : Nat} {spare : Nat → Bool} {held : Bool} {t e : TypeId} {v : Value} {d : DataW H} {p : List MemPlace}
/-- What a datum weighs lies within reach. -/
def Light (P : Program) (t : TypeId) (d : DataW H) : Prop := ∀ q ∈ d.weights P t, q ≤ 140737488351232
theorem light_of {ts : List TypeId} {ds : List (DataW H)} {j : Nat} (hsz : (DataW.weightsEach P ts ds).all (· ≤ reachBytes) = true) (htj : ts[j]? = some t) (hj : ds[j]? = some d) : Light P t d := fun q hq => by
  have := List.all_eq_true.1 hsz _ (DataW.weights_mem_each htj hj q hq)
  have := of_decide_eq_true this
  simpa [reachBytes] using this
theorem Light.elem {elems rest : List (DataW H)} {d : DataW H} (ht : P.underlying t = some (.slice e)) (h : Light P t (.slice elems rest)) (hd : d ∈ elems) : Light P e d := fun q hq => h q (by
  simp only [DataW.weights, ht]
  exact List.mem_cons_of_mem _ (List.mem_append_left _ (mem_weightsAll hd hq)))
theorem Light.len {elems rest : List (DataW H)} (ht : P.underlying t = some (.slice e)) (h : Light P t (.slice elems rest)) : elems.length * P.bytesOf e ≤ 140737488351232 := by
  have := h ((elems.length + rest.length) * P.bytesOf e) (by simp [DataW.weights, ht])
  exact Nat.le_trans (Nat.mul_le_mul_right _ (Nat.le_add_right _ _)) this
theorem Light.str {l : List UInt8} (h : Light P t (.lit (.string l) : DataW H)) : l.length ≤ 140737488351232 := h _ (by simp [DataW.weights])
theorem mem_weightsEach : ∀ {ts : List TypeId} {ds : List (DataW H)} {j : Nat} {t : TypeId} {d : DataW H} {q : Nat}, ts[j]? = some t → ds[j]? = some d → q ∈ d.weights P t → q ∈ DataW.weightsEach P ts ds := fun h1 h2 h3 => DataW.weights_mem_each h1 h2 _ h3
theorem Light.part {fs : Array Field} {parts : List (DataW H)} {j : Nat} {f : Field} {d : DataW H} (ht : P.underlying t = some (.struct fs)) (h : Light P t (.agg parts)) (hf : fs[j]? = some f) (hd : parts[j]? = some d) : Light P f.type d := fun q hq => h q (by
  simp only [DataW.weights, ht]
  exact mem_weightsEach (j := j) (by rw [List.getElem?_map, Array.getElem?_toList, hf]; rfl) hd hq)

/-- Slices of records. -/
theorem recs_in {α : Type} [Inhabited α] (f : α → List Value) {k bts : Nat} (hf : ∀ a, (f a).length = k) (R : α → Prop) (ht : P.underlying t = some (.slice e)) (ce : P.cellsOf e = k) (hby : P.bytesOf e = bts)
    (each : ∀ cs x n, DataW.trod enc P W base spare held n e cs = some x → Light P e x.1 → ∃ a, cs = f a ∧ R a) (hv : ∃ a len cap, v = .slice a len cap) (h : DataW.Trod enc P W base spare held t v d p) (hl : Light P t d) :
    ∃ L, Rc f k W (fun _ => True) v L ∧ (∀ a ∈ L, R a) ∧ L.length * bts ≤ 140737488351232 := by
  obtain ⟨a0, len0, cap0, rfl⟩ := hv
  obtain ⟨fuel, hfu⟩ := h
  rcases open_slice ht hfu with ⟨hcs, _⟩ | ⟨a, len, cap, m, n, D, Pl, hcs, _, hlc, hm, hmm, hx, hcell⟩
  · simp [Value.cells] at hcs
    obtain ⟨rfl, rfl, rfl⟩ := hcs
    exact ⟨[], Rc.nil _ _ _ _, (fun l hl => by cases hl), by simp⟩
  · simp [Value.cells] at hcs
    obtain ⟨rfl, rfl, rfl⟩ := hcs
    have hlm : len0 ≤ m := by rw [hmm]; split <;> omega
    injection hx with hd _
    subst hd
    have every : ∀ i, i < len0 → ∃ b, (W.cells? base (a.add (i * P.cellsOf e)) (P.cellsOf e) = some (f b)) ∧ R b := by
      intro i hi
      obtain ⟨cs', h1, h2⟩ := hcell i (by omega)
      obtain ⟨b, hb, hR⟩ := each cs' _ _ h2 (hl.elem ht (List.mem_map.2 ⟨i, List.mem_range.2 hi, rfl⟩))
      exact ⟨b, by rw [h1, hb], hR⟩
    obtain ⟨q, hq⟩ := choose_lt every
    refine ⟨(List.range len0).map q, ⟨some a, cap0, by simp, by simp; omega, hm, by simp, by rw [rflat_len hf], fun j u hu => ⟨a, rfl, trivial, ?_⟩⟩, fun l hl => ?_, ?_⟩
    · have hk : j < len0 * k := by
        have := (List.getElem?_eq_some_iff.1 hu).1
        rw [rflat_len hf] at this
        simpa using this
      have hk0 : 0 < k := by
        rcases Nat.eq_zero_or_pos k with h0 | h0
        · rw [h0] at hk; omega
        · exact h0
      obtain ⟨i, b, hb, rfl⟩ : ∃ i b, b < k ∧ j = i * k + b := ⟨j / k, j % k, Nat.mod_lt _ hk0, by rw [Nat.mul_comm]; exact (Nat.div_add_mod j k).symm⟩
      have hi : i < len0 := by
        rcases Nat.lt_or_ge i len0 with h | h
        · exact h
        · have := Nat.mul_le_mul_right k h; omega
      rw [rflat_at hf _ i b (by simpa using hi) hb] at hu
      simp only [List.getElem_map, List.getElem_range] at hu
      obtain ⟨h1, _⟩ := hq i hi
      obtain ⟨_, _, h3⟩ := World.cells?_some h1
      have := h3 b (by rw [ce]; exact hb)
      rw [hu, add_of_add, ce] at this
      exact this
    · obtain ⟨i, hi, rfl⟩ := List.mem_map.1 hl
      exact (hq i (List.mem_range.1 hi)).2
    · have := hl.len ht
      rw [hby] at this
      simpa using this
/-- A record of texts, two of them. -/
theorem ava_each {f0 f1 : Field} (he : P.underlying e = some (.struct #[f0, f1])) (ce : P.cellsOf e = 2) (o0 : f0.offset = 0) (o1 : f1.offset = 1) (c0 : P.cellsOf f0.type = 1) (c1 : P.cellsOf f1.type = 1)
    (s0 : P.underlying f0.type = some .string) (s1 : P.underlying f1.type = some .string) (cs : List Value) (x : DataW H × List MemPlace) (n : Nat) (h : DataW.trod enc P W base spare held n e cs = some x) (hl : Light P e x.1) :
    ∃ a : List UInt8 × List UInt8, cs = avc a ∧ (a.1.length ≤ 140737488351232 ∧ a.2.length ≤ 140737488351232) := by
  obtain ⟨xs, m, _, rfl, hlen, hxl, hfi⟩ := DataW.trod_struct he h
  match xs, hxl, cs, hlen.trans ce with
  | [y0, y1], _, [v0, v1], _ =>
    have g0 := hfi 0 f0 rfl
    have g1 := hfi 1 f1 rfl
    simp [o0, o1, c0, c1] at g0 g1
    obtain ⟨x0, q0, z0, _⟩ := DataW.trod_string s0 g0
    obtain ⟨x1, q1, z1, _⟩ := DataW.trod_string s1 g1
    injection q0 with q0
    injection q1 with q1
    have l0 := Light.part (j := 0) he hl rfl rfl
    have l1 := Light.part (j := 1) he hl rfl rfl
    rw [z0] at l0
    rw [z1] at l1
    exact ⟨(x0.data.toList, x1.data.toList), by rw [q0, q1, sv_of x0, sv_of x1], l0.str, l1.str⟩
end
end Go.Proofs.YtblfhonfjljndaaDoor
