/- Rows of records of k one-cell fields, over any program: what they read as, what of them came in. -/
import Derived.Test.YtagchhcpmibelaaStrB
import Derived.Test.YtagchhcpmibelaaOwnK
import Derived.Deep.SlicePairs
import Derived.ChangeArms
namespace Go.Proofs.Ytagchhcpmibelaa
open Go.RowKit Go.WideShapes Go.ChangeShapes Go.Deep
set_option maxRecDepth 100000

theorem rflat_at {α : Type} {f : α → List Value} {k : Nat} (hf : ∀ a, (f a).length = k) : ∀ (L : List α) (i j : Nat) (hi : i < L.length), j < k → (L.flatMap f)[i * k + j]? = (f L[i])[j]?
  | a :: L, 0, j, _, hj => by
    rw [List.flatMap_cons, Nat.zero_mul, Nat.zero_add, List.getElem?_append_left (by rw [hf]; exact hj)]
    rfl
  | a :: L, i + 1, j, hi, hj => by
    rw [List.flatMap_cons, List.getElem?_append_right (by rw [hf, Nat.succ_mul]; omega), hf, show (i + 1) * k + j - k = i * k + j by rw [Nat.succ_mul]; omega]
    exact rflat_at hf L i j (by simpa using hi) hj
theorem rflat_len {α : Type} {f : α → List Value} {k : Nat} (hf : ∀ a, (f a).length = k) : ∀ L : List α, (L.flatMap f).length = L.length * k
  | [] => by simp
  | a :: L => by rw [List.flatMap_cons, List.length_append, hf, rflat_len hf L, List.length_cons, Nat.succ_mul]; omega
theorem rflat_take {α : Type} {f : α → List Value} {k : Nat} (hf : ∀ a, (f a).length = k) : ∀ (L : List α) (n : Nat), (L.flatMap f).take (n * k) = (L.take n).flatMap f
  | [], n => by simp
  | a :: L, 0 => by simp
  | a :: L, n + 1 => by
    rw [List.flatMap_cons, List.take_succ_cons, List.flatMap_cons, Nat.succ_mul, Nat.add_comm, ← rflat_take hf L n, ← hf a, List.take_length_add_append]
theorem rflat_drop {α : Type} {f : α → List Value} {k : Nat} (hf : ∀ a, (f a).length = k) : ∀ (L : List α) (n : Nat), (L.flatMap f).drop (n * k) = (L.drop n).flatMap f
  | [], n => by simp
  | a :: L, 0 => by simp
  | a :: L, n + 1 => by
    rw [List.flatMap_cons, List.drop_succ_cons, Nat.succ_mul, Nat.add_comm, ← rflat_drop hf L n, ← hf a, List.drop_length_add_append]

/-- v is a slice of records: a record is the k cells f a. -/
def Rc {α : Type} (f : α → List Value) (k : Nat) (w : World) (S : Nat → Prop) (v : Value) (L : List α) : Prop := SlK w S k v L.length (L.flatMap f)
/-- The records lie at A, in blocks of S. -/
def RcAt {α : Type} (f : α → List Value) (k : Nat) (w : World) (S : Nat → Prop) (A : Option Addr) (L : List α) : Prop :=
  ∀ i j u (hi : i < L.length), j < k → (f L[i])[j]? = some u → ∃ ad, A = some ad ∧ S ad.block ∧ w.cell? (ad.add (i * k + j)) = some u

section
variable {α : Type} {f : α → List Value} {k : Nat} {w w' : World} {S T F : Nat → Prop} {A : Option Addr} {v : Value} {L : List α} {c m : Nat}
theorem Rc.mod (h : Rc f k w S v L) (hm : Mod F w w') (hn : ∀ b, b < w.heap.size → S b → ¬ F b) : Rc f k w' S v L := SlK.mod h hm hn
theorem Rc.ext (h : Rc f k w S v L) (hm : Ext w w') : Rc f k w' S v L := SlK.mod h hm (fun _ _ _ h => h)
theorem Rc.mono (h : Rc f k w S v L) (hS : ∀ b, b < w.heap.size → S b → T b) : Rc f k w T v L := SlK.mono h hS
theorem Rc.drewN (h : Rc f k w S v L) (n : Nat) : Rc f k (w.drewN n) S v L := h
theorem Rc.nil (f : α → List Value) (k : Nat) (w : World) (S : Nat → Prop) : Rc f k w S (.slice none 0 0) [] := ⟨none, 0, rfl, Nat.le_refl _, Nat.zero_le _, fun _ => rfl, by simp, Cells.nil _ _ _⟩
theorem Rc.open_ (hf : ∀ a, (f a).length = k) (h : Rc f k w S v L) : ∃ A c, v = .slice A L.length c ∧ L.length ≤ c ∧ c ≤ 9223372036854775807 ∧ (A = none → c = 0) ∧ RcAt f k w S A L := by
  obtain ⟨A, c, h1, h2, h3, h4, h5, h6⟩ := h
  exact ⟨A, c, h1, h2, by simpa [maxLen] using h3, h4, fun i j u hi hj hu => h6 _ _ (by rw [rflat_at hf L i j hi hj]; exact hu)⟩
theorem Rc.shape (h : Rc f k w S v L) : ∃ A c, v = .slice A L.length c := by
  obtain ⟨A, c, h1, _⟩ := h
  exact ⟨A, c, h1⟩
theorem RcAt.ext (h : RcAt f k w S A L) (hm : Ext w w') : RcAt f k w' S A L := fun i j u hi hj hu => by
  obtain ⟨ad, h1, h2, h3⟩ := h i j u hi hj hu
  exact ⟨ad, h1, h2, (hm.cell (lt_of_cell h3) (fun h => h)).trans h3⟩
theorem RcAt.mod (h : RcAt f k w S A L) (hm : Mod F w w') (hn : ∀ b, b < w.heap.size → S b → ¬ F b) : RcAt f k w' S A L := fun i j u hi hj hu => by
  obtain ⟨ad, h1, h2, h3⟩ := h i j u hi hj hu
  have hlt := lt_of_cell h3
  exact ⟨ad, h1, h2, (hm.cell hlt (by rw [block_of_add] at hlt ⊢; exact hn _ hlt h2)).trans h3⟩
/-- v[:m]. -/
theorem Rc.begin (hf : ∀ a, (f a).length = k) (h : Rc f k w S (.slice A L.length c) L) (hm : m ≤ L.length) : Rc f k w S (.slice A m c) (L.take m) := by
  obtain ⟨A', c', h1, h2, h3, h4, h5, h6⟩ := h
  injection h1 with e1 _ e3
  subst e1; subst e3
  exact ⟨A, c, by simp [Nat.min_eq_left hm], by simp; omega, h3, h4, by rw [rflat_len hf], by rw [← rflat_take hf]; exact h6.take _⟩
/-- v[m:], of a slice that goes on behind m. -/
theorem Rc.rest (hf : ∀ a, (f a).length = k) (h : Rc f k w S (.slice A L.length c) L) (hm : m ≤ L.length) : Rc f k w S (.slice (A.map (fun x => x.add (m * k))) (L.length - m) (c - m)) (L.drop m) := by
  obtain ⟨A', c', h1, h2, h3, h4, h5, h6⟩ := h
  injection h1 with e1 _ e3
  subst e1; subst e3
  refine ⟨A.map (fun x => x.add (m * k)), c - m, by simp, by simp; omega, by omega, fun he => ?_, by rw [rflat_len hf], by rw [← rflat_drop hf]; exact h6.drop _⟩
  have := h4 (by cases A <;> simp_all); omega
/-- v[c:], at the slice's room. -/
theorem Rc.rest0 (h : Rc f k w S (.slice A L.length c) L) (hm : m ≤ L.length) (hc : c = m) : Rc f k w S (.slice A (L.length - m) 0) (L.drop m) := by
  obtain ⟨A', c', h1, h2, h3, h4, h5, h6⟩ := h
  injection h1 with e1 _ e3
  subst e1; subst e3
  have e : L.drop m = [] := List.drop_of_length_le (by omega)
  rw [e]
  exact ⟨A, 0, by simp; omega, by simp, by simp, fun _ => rfl, by simp, by simpa using Cells.nil _ _ _⟩
end

/-- A record of two texts. -/
abbrev avc (a : List UInt8 × List UInt8) : List Value := [sv a.1, sv a.2]
theorem avc_len (a : List UInt8 × List UInt8) : (avc a).length = 2 := rfl
abbrev As (w : World) (S : Nat → Prop) (v : Value) (L : List (List UInt8 × List UInt8)) : Prop := Rc avc 2 w S v L
theorem add_next (a : Addr) (i j : Nat) (hj : 0 < j) : a.add (i + j) = ⟨(a.add i).block, (a.add i).off + j, none⟩ := by
  unfold Addr.add
  by_cases hi : i = 0
  · subst hi; simp; omega
  · rw [if_neg (by omega), if_neg hi]; simp [Nat.add_assoc]
theorem As.at_ {w : World} {S : Nat → Prop} {A : Option Addr} {L : List (List UInt8 × List UInt8)} (h : RcAt avc 2 w S A L) {i : Nat} (hi : i < L.length) :
    ∃ ad, A = some ad ∧ S ad.block ∧ w.cell? (ad.add (i * 2)) = some (sv L[i].1) ∧ w.cell? ⟨(ad.add (i * 2)).block, (ad.add (i * 2)).off + 1, none⟩ = some (sv L[i].2) := by
  obtain ⟨ad, h1, h2, h3⟩ := h i 0 _ hi (by omega) rfl
  obtain ⟨ad', h1', _, h4⟩ := h i 1 _ hi (by omega) rfl
  rw [h1] at h1'
  injection h1' with h1'
  subst h1'
  rw [add_next _ _ 1 (by omega)] at h4
  exact ⟨ad, h1, h2, h3, h4⟩

section
variable {H : Type} {enc : TypeId × Value → H} {P : Program} {W : World} {base : Nat} {spare : Nat → Bool} {held : Bool} {t e : TypeId} {v : Value} {d : DataW H} {p : List MemPlace}
theorem avas_in_sized {ts : List TypeId} {ds : List (DataW H)} {j : Nat} {f0 f1 : Field} (ht : P.underlying t = some (.slice e)) (he : P.underlying e = some (.struct #[f0, f1])) (ce : P.cellsOf e = 2) (o0 : f0.offset = 0) (o1 : f1.offset = 1) (c0 : P.cellsOf f0.type = 1) (c1 : P.cellsOf f1.type = 1)
    (s0 : P.underlying f0.type = some .string) (s1 : P.underlying f1.type = some .string) (hby : P.bytesOf e = 32) (hv : ∃ a len cap, v = .slice a len cap) (h : DataW.Trod enc P W base spare held t v d p)
    (hsz : (DataW.weightsEach P ts ds).all (· ≤ reachBytes) = true) (htj : ts[j]? = some t) (hj : ds[j]? = some d) :
    ∃ L, As W (fun _ => True) v L ∧ (∀ a ∈ L, a.1.length ≤ 140737488351232 ∧ a.2.length ≤ 140737488351232) ∧ L.length * 32 ≤ 140737488351232 := by
  obtain ⟨a0, len0, cap0, rfl⟩ := hv
  obtain ⟨fuel, hf⟩ := h
  rcases open_slice_pairs ht he ce o0 o1 c0 c1 hf with ⟨hcs, _⟩ | ⟨a, len, cap, m, n, V0, V1, D0, D1, P0, P1, hcs, _, hl, hm, hmm, hx, hcell⟩
  · simp [Value.cells] at hcs
    obtain ⟨rfl, rfl, rfl⟩ := hcs
    exact ⟨[], Rc.nil _ _ _ _, (fun l hl => by cases hl), by simp⟩
  · simp [Value.cells] at hcs
    obtain ⟨rfl, rfl, rfl⟩ := hcs
    have hlm : len0 ≤ m := by rw [hmm]; split <;> omega
    injection hx with hd _
    subst hd
    have each : ∀ i, ∃ q : List UInt8 × List UInt8, i < m → V0 i = sv q.1 ∧ V1 i = sv q.2 ∧ D0 i = .lit (.string q.1) ∧ D1 i = .lit (.string q.2) := by
      intro i
      by_cases hi : i < m
      · obtain ⟨_, _, g0, g1⟩ := hcell i hi
        obtain ⟨x0, y0, z0, _⟩ := DataW.trod_string s0 g0
        obtain ⟨x1, y1, z1, _⟩ := DataW.trod_string s1 g1
        injection y0 with y0; injection y1 with y1
        injection z0 with z0 _; injection z1 with z1 _
        exact ⟨(x0.data.toList, x1.data.toList), fun _ => ⟨y0.trans (sv_of x0), y1.trans (sv_of x1), z0, z1⟩⟩
      · exact ⟨([], []), fun h => absurd h hi⟩
    obtain ⟨q, hq⟩ := Classical.axiomOfChoice each
    have hs1 := sized_slice hsz htj hj ht
    rw [hby] at hs1
    simp only [List.length_map, List.length_range, reachBytes] at hs1
    refine ⟨(List.range len0).map q, ⟨some a, cap0, by simp, by simp; omega, hm, by simp, by rw [rflat_len avc_len], fun k u hu => ⟨a, rfl, trivial, ?_⟩⟩, fun l hl => ?_, by rw [List.length_map, List.length_range]; omega⟩
    · have hk : k < len0 * 2 := by
        have := (List.getElem?_eq_some_iff.1 hu).1
        rw [rflat_len avc_len] at this
        simpa using this
      obtain ⟨i, b, hb, rfl⟩ : ∃ i b, b < 2 ∧ k = i * 2 + b := ⟨k / 2, k % 2, by omega, by omega⟩
      have hi : i < len0 := by omega
      rw [rflat_at avc_len _ i b (by simpa using hi) hb] at hu
      simp only [List.getElem_map, List.getElem_range] at hu
      obtain ⟨k0, k1, _, _⟩ := hcell i (by omega)
      obtain ⟨u0, u1, _, _⟩ := hq i (by omega)
      match b, hb with
      | 0, _ => simp at hu; rw [Nat.add_zero, k0, u0, hu]
      | 1, _ => simp at hu; rw [k1, u1, hu]
    · obtain ⟨i, hi, rfl⟩ := List.mem_map.1 hl
      have hi' := List.mem_range.1 hi
      obtain ⟨_, _, u0, u1⟩ := hq i (by omega)
      have hmem : (DataW.agg [D0 i, D1 i] : DataW H) ∈ (List.range len0).map fun i => (DataW.agg [D0 i, D1 i] : DataW H) := List.mem_map.2 ⟨i, hi, rfl⟩
      have hw : ∀ n, n ∈ (DataW.agg [D0 i, D1 i] : DataW H).weights P e → n ≤ reachBytes := fun n hn => by
        have := List.all_eq_true.1 hsz _ (DataW.weights_mem_each htj hj n (by simp only [DataW.weights, ht]; exact List.mem_cons_of_mem _ (List.mem_append_left _ (mem_weightsAll hmem hn))))
        exact of_decide_eq_true this
      have hh : (DataW.agg [D0 i, D1 i] : DataW H).weights P e = [(q i).1.length, (q i).2.length] := by
        simp [DataW.weights, he, DataW.weightsEach, u0, u1]
      exact ⟨hw _ (by rw [hh]; simp), hw _ (by rw [hh]; simp)⟩
end
end Go.Proofs.Ytagchhcpmibelaa
