/- Rows of records of k one-cell fields, over any program: what they read as, what of them came in. -/
import Derived.Test.YtblfhonfjljndaaDoorStrB
import Derived.Test.YtblfhonfjljndaaDoorOwnK
import Derived.Deep.SlicePairs
import Derived.ChangeArms
import Derived.Laws.MakeOwn
import Derived.RegionTactic
namespace Go.Proofs.YtblfhonfjljndaaDoor
open Go.RowKit Go.WideShapes Go.ChangeShapes Go.Deep
set_option maxRecDepth 100000

theorem rflat_at {α : Type} {f : α → List Value} {k : Nat} (hf : ∀ a, (f a).length = k) : ∀ (L : List α) (i j : Nat) (hi : i < L.length), j < k → (L.flatMap f)[i * k + j]? = (f L[i])[j]?
  | a :: L, 0, j, _, hj => by
    rw [List.flatMap_cons, Nat.zero_mul, Nat.zero_add, List.getElem?_append_left (by rw [hf]; exact hj)]
    rfl
  | a :: L, i + 1, j, hi, hj => by
    rw [List.flatMap_cons, List.getElem?_append_right (by rw [hf, Nat.succ_mul]; omega), hf, show (i + 1) * k + j - k = i * k + j by rw [Nat.succ_mul]; omega]
    exact rflat_at hf L i j (by simpa using hi) hj
theorem rflat_len {α : Type} {f : α → List Value} {k : Nat} (hf : ∀ a, (f a).length = k) : ∀ L : List α, (L.flatMap f).length = L.length * k
  | [] => by simp
  | a :: L => by rw [List.flatMap_cons, List.length_append, hf, rflat_len hf L, List.length_cons, Nat.succ_mul]; omega
theorem rflat_take {α : Type} {f : α → List Value} {k : Nat} (hf : ∀ a, (f a).length = k) : ∀ (L : List α) (n : Nat), (L.flatMap f).take (n * k) = (L.take n).flatMap f
  | [], n => by simp
  | a :: L, 0 => by simp
  | a :: L, n + 1 => by
    rw [List.flatMap_cons, List.take_succ_cons, List.flatMap_cons, Nat.succ_mul, Nat.add_comm, ← rflat_take hf L n, ← hf a, List.take_length_add_append]
theorem rflat_drop {α : Type} {f : α → List Value} {k : Nat} (hf : ∀ a, (f a).length = k) : ∀ (L : List α) (n : Nat), (L.flatMap f).drop (n * k) = (L.drop n).flatMap f
  | [], n => by simp
  | a :: L, 0 => by simp
  | a :: L, n + 1 => by
    rw [List.flatMap_cons, List.drop_succ_cons, Nat.succ_mul, Nat.add_comm, ← rflat_drop hf L n, ← hf a, List.drop_length_add_append]

/-- v is a slice of records: a record is the k cells f a. -/
def Rc {α : Type} (f : α → List Value) (k : Nat) (w : World) (S : Nat → Prop) (v : Value) (L : List α) : Prop := SlK w S k v L.length (L.flatMap f)
/-- The records lie at A, in blocks of S. -/
def RcAt {α : Type} (f : α → List Value) (k : Nat) (w : World) (S : Nat → Prop) (A : Option Addr) (L : List α) : Prop :=
  ∀ i j u (hi : i < L.length), j < k → (f L[i])[j]? = some u → ∃ ad, A = some ad ∧ S ad.block ∧ w.cell? (ad.add (i * k + j)) = some u

section
variable {α : Type} {f : α → List Value} {k : Nat} {w w' : World} {S T F : Nat → Prop} {A : Option Addr} {v : Value} {L : List α} {c m : Nat}
theorem Rc.mod (h : Rc f k w S v L) (hm : Mod F w w') (hn : ∀ b, b < w.heap.size → S b → ¬ F b) : Rc f k w' S v L := SlK.mod h hm hn
theorem Rc.ext (h : Rc f k w S v L) (hm : Ext w w') : Rc f k w' S v L := SlK.mod h hm (fun _ _ _ h => h)
theorem Rc.mono (h : Rc f k w S v L) (hS : ∀ b, b < w.heap.size → S b → T b) : Rc f k w T v L := SlK.mono h hS
theorem Rc.drewN (h : Rc f k w S v L) (n : Nat) : Rc f k (w.drewN n) S v L := h
theorem Rc.nil (f : α → List Value) (k : Nat) (w : World) (S : Nat → Prop) : Rc f k w S (.slice none 0 0) [] := ⟨none, 0, rfl, Nat.le_refl _, Nat.zero_le _, fun _ => rfl, by simp, Cells.nil _ _ _⟩
theorem Rc.open_ (hf : ∀ a, (f a).length = k) (h : Rc f k w S v L) : ∃ A c, v = .slice A L.length c ∧ L.length ≤ c ∧ c ≤ 9223372036854775807 ∧ (A = none → c = 0) ∧ RcAt f k w S A L := by
  obtain ⟨A, c, h1, h2, h3, h4, h5, h6⟩ := h
  exact ⟨A, c, h1, h2, by simpa [maxLen] using h3, h4, fun i j u hi hj hu => h6 _ _ (by rw [rflat_at hf L i j hi hj]; exact hu)⟩
theorem Rc.shape (h : Rc f k w S v L) : ∃ A c, v = .slice A L.length c := by
  obtain ⟨A, c, h1, _⟩ := h
  exact ⟨A, c, h1⟩
theorem RcAt.ext (h : RcAt f k w S A L) (hm : Ext w w') : RcAt f k w' S A L := fun i j u hi hj hu => by
  obtain ⟨ad, h1, h2, h3⟩ := h i j u hi hj hu
  exact ⟨ad, h1, h2, (hm.cell (lt_of_cell h3) (fun h => h)).trans h3⟩
theorem RcAt.mod (h : RcAt f k w S A L) (hm : Mod F w w') (hn : ∀ b, b < w.heap.size → S b → ¬ F b) : RcAt f k w' S A L := fun i j u hi hj hu => by
  obtain ⟨ad, h1, h2, h3⟩ := h i j u hi hj hu
  have hlt := lt_of_cell h3
  exact ⟨ad, h1, h2, (hm.cell hlt (by rw [block_of_add] at hlt ⊢; exact hn _ hlt h2)).trans h3⟩
/-- v[:m]. -/
theorem Rc.begin (hf : ∀ a, (f a).length = k) (h : Rc f k w S (.slice A L.length c) L) (hm : m ≤ L.length) : Rc f k w S (.slice A m c) (L.take m) := by
  obtain ⟨A', c', h1, h2, h3, h4, h5, h6⟩ := h
  injection h1 with e1 _ e3
  subst e1; subst e3
  exact ⟨A, c, by simp [Nat.min_eq_left hm], by simp; omega, h3, h4, by rw [rflat_len hf], by rw [← rflat_take hf]; exact h6.take _⟩
/-- v[m:], of a slice that goes on behind m. -/
theorem Rc.rest (hf : ∀ a, (f a).length = k) (h : Rc f k w S (.slice A L.length c) L) (hm : m ≤ L.length) : Rc f k w S (.slice (A.map (fun x => x.add (m * k))) (L.length - m) (c - m)) (L.drop m) := by
  obtain ⟨A', c', h1, h2, h3, h4, h5, h6⟩ := h
  injection h1 with e1 _ e3
  subst e1; subst e3
  refine ⟨A.map (fun x => x.add (m * k)), c - m, by simp, by simp; omega, by omega, fun he => ?_, by rw [rflat_len hf], by rw [← rflat_drop hf]; exact h6.drop _⟩
  have := h4 (by cases A <;> simp_all); omega
/-- v[c:], at the slice's room. -/
theorem Rc.rest0 (h : Rc f k w S (.slice A L.length c) L) (hm : m ≤ L.length) (hc : c = m) : Rc f k w S (.slice A (L.length - m) 0) (L.drop m) := by
  obtain ⟨A', c', h1, h2, h3, h4, h5, h6⟩ := h
  injection h1 with e1 _ e3
  subst e1; subst e3
  have e : L.drop m = [] := List.drop_of_length_le (by omega)
  rw [e]
  exact ⟨A, 0, by simp; omega, by simp, by simp, fun _ => rfl, by simp, by simpa using Cells.nil _ _ _⟩
end

/-- A record of two texts. -/
abbrev avc (a : List UInt8 × List UInt8) : List Value := [sv a.1, sv a.2]
theorem avc_len (a : List UInt8 × List UInt8) : (avc a).length = 2 := rfl
abbrev As (w : World) (S : Nat → Prop) (v : Value) (L : List (List UInt8 × List UInt8)) : Prop := Rc avc 2 w S v L
theorem add_next (a : Addr) (i j : Nat) (hj : 0 < j) : a.add (i + j) = ⟨(a.add i).block, (a.add i).off + j, none⟩ := by
  unfold Addr.add
  by_cases hi : i = 0
  · subst hi; simp; omega
  · rw [if_neg (by omega), if_neg hi]; simp [Nat.add_assoc]
theorem As.at_ {w : World} {S : Nat → Prop} {A : Option Addr} {L : List (List UInt8 × List UInt8)} (h : RcAt avc 2 w S A L) {i : Nat} (hi : i < L.length) :
    ∃ ad, A = some ad ∧ S ad.block ∧ w.cell? (ad.add (i * 2)) = some (sv L[i].1) ∧ w.cell? ⟨(ad.add (i * 2)).block, (ad.add (i * 2)).off + 1, none⟩ = some (sv L[i].2) := by
  obtain ⟨ad, h1, h2, h3⟩ := h i 0 _ hi (by omega) rfl
  obtain ⟨ad', h1', _, h4⟩ := h i 1 _ hi (by omega) rfl
  rw [h1] at h1'
  injection h1' with h1'
  subst h1'
  rw [add_next _ _ 1 (by omega)] at h4
  exact ⟨ad, h1, h2, h3, h4⟩

section
variable {H : Type} {enc : TypeId × Value → H} {P : Program} {W : World} {base : Nat} {spare : Nat → Bool} {held : Bool} {t e : TypeId} {v : Value} {d : DataW H} {p : List MemPlace}
theorem avas_in_sized {ts : List TypeId} {ds : List (DataW H)} {j : Nat} {f0 f1 : Field} (ht : P.underlying t = some (.slice e)) (he : P.underlying e = some (.struct #[f0, f1])) (ce : P.cellsOf e = 2) (o0 : f0.offset = 0) (o1 : f1.offset = 1) (c0 : P.cellsOf f0.type = 1) (c1 : P.cellsOf f1.type = 1)
    (s0 : P.underlying f0.type = some .string) (s1 : P.underlying f1.type = some .string) (hby : P.bytesOf e = 32) (hv : ∃ a len cap, v = .slice a len cap) (h : DataW.Trod enc P W base spare held t v d p)
    (hsz : (DataW.weightsEach P ts ds).all (· ≤ reachBytes) = true) (htj : ts[j]? = some t) (hj : ds[j]? = some d) :
    ∃ L, As W (fun _ => True) v L ∧ (∀ a ∈ L, a.1.length ≤ 140737488351232 ∧ a.2.length ≤ 140737488351232) ∧ L.length * 32 ≤ 140737488351232 := by
  obtain ⟨a0, len0, cap0, rfl⟩ := hv
  obtain ⟨fuel, hf⟩ := h
  rcases open_slice_pairs ht he ce o0 o1 c0 c1 hf with ⟨hcs, _⟩ | ⟨a, len, cap, m, n, V0, V1, D0, D1, P0, P1, hcs, _, hl, hm, hmm, hx, hcell⟩
  · simp [Value.cells] at hcs
    obtain ⟨rfl, rfl, rfl⟩ := hcs
    exact ⟨[], Rc.nil _ _ _ _, (fun l hl => by cases hl), by simp⟩
  · simp [Value.cells] at hcs
    obtain ⟨rfl, rfl, rfl⟩ := hcs
    have hlm : len0 ≤ m := by rw [hmm]; split <;> omega
    injection hx with hd _
    subst hd
    have each : ∀ i, ∃ q : List UInt8 × List UInt8, i < m → V0 i = sv q.1 ∧ V1 i = sv q.2 ∧ D0 i = .lit (.string q.1) ∧ D1 i = .lit (.string q.2) := by
      intro i
      by_cases hi : i < m
      · obtain ⟨_, _, g0, g1⟩ := hcell i hi
        obtain ⟨x0, y0, z0, _⟩ := DataW.trod_string s0 g0
        obtain ⟨x1, y1, z1, _⟩ := DataW.trod_string s1 g1
        injection y0 with y0; injection y1 with y1
        injection z0 with z0 _; injection z1 with z1 _
        exact ⟨(x0.data.toList, x1.data.toList), fun _ => ⟨y0.trans (sv_of x0), y1.trans (sv_of x1), z0, z1⟩⟩
      · exact ⟨([], []), fun h => absurd h hi⟩
    obtain ⟨q, hq⟩ := Classical.axiomOfChoice each
    have hs1 := sized_slice hsz htj hj ht
    rw [hby] at hs1
    simp only [List.length_map, List.length_range, reachBytes] at hs1
    refine ⟨(List.range len0).map q, ⟨some a, cap0, by simp, by simp; omega, hm, by simp, by rw [rflat_len avc_len], fun k u hu => ⟨a, rfl, trivial, ?_⟩⟩, fun l hl => ?_, by rw [List.length_map, List.length_range]; omega⟩
    · have hk : k < len0 * 2 := by
        have := (List.getElem?_eq_some_iff.1 hu).1
        rw [rflat_len avc_len] at this
        simpa using this
      obtain ⟨i, b, hb, rfl⟩ : ∃ i b, b < 2 ∧ k = i * 2 + b := ⟨k / 2, k % 2, by omega, by omega⟩
      have hi : i < len0 := by omega
      rw [rflat_at avc_len _ i b (by simpa using hi) hb] at hu
      simp only [List.getElem_map, List.getElem_range] at hu
      obtain ⟨k0, k1, _, _⟩ := hcell i (by omega)
      obtain ⟨u0, u1, _, _⟩ := hq i (by omega)
      match b, hb with
      | 0, _ => simp at hu; rw [Nat.add_zero, k0, u0, hu]
      | 1, _ => simp at hu; rw [k1, u1, hu]
    · obtain ⟨i, hi, rfl⟩ := List.mem_map.1 hl
      have hi' := List.mem_range.1 hi
      obtain ⟨_, _, u0, u1⟩ := hq i (by omega)
      have hmem : (DataW.agg [D0 i, D1 i] : DataW H) ∈ (List.range len0).map fun i => (DataW.agg [D0 i, D1 i] : DataW H) := List.mem_map.2 ⟨i, hi, rfl⟩
      have hw : ∀ n, n ∈ (DataW.agg [D0 i, D1 i] : DataW H).weights P e → n ≤ reachBytes := fun n hn => by
        have := List.all_eq_true.1 hsz _ (DataW.weights_mem_each htj hj n (by simp only [DataW.weights, ht]; exact List.mem_cons_of_mem _ (List.mem_append_left _ (mem_weightsAll hmem hn))))
        exact of_decide_eq_true this
      have hh : (DataW.agg [D0 i, D1 i] : DataW H).weights P e = [(q i).1.length, (q i).2.length] := by
        simp [DataW.weights, he, DataW.weightsEach, u0, u1]
      exact ⟨hw _ (by rw [hh]; simp), hw _ (by rw [hh]; simp)⟩
end
end Go.Proofs.YtblfhonfjljndaaDoor
namespace Go.Proofs.YtblfhonfjljndaaDoor
open Go.RowKit
set_option maxRecDepth 100000

theorem byte_of {n : Nat} (h : n < 256) : Value.int .u8 (n : Int) = bv (UInt8.ofNat n) := by
  show _ = Value.int .u8 ((UInt8.ofNat n).toNat : Int)
  rw [u8_ofNat' _ h]
theorem Next.sooner {B B' : Nat} {v v' : Value} (h : Next B v v') (hB : B' ≤ B) : Next B' v v' := (Next.refl B' v).trans h hB
theorem one_ok (u : Value) (h : u.oneCell' = true) : ∀ x ∈ [u], x.oneCell' = true := by
  intro x hx
  rw [List.mem_singleton] at hx
  rw [hx]; exact h
theorem mod_app {a c : World} {o : Obj} {v : Value} (h : Mod (own v) (a.alloc o) c) : Mod (own v) a c := (Mod.alloc (Mod.refl _ a) o).then_ h (fun _ _ h => h)

section
variable {P : Program} {w : World} {t e : TypeId} {z : Value} {ops : Array Oper} {rest : List Oper} {o : Oper} {a : Act} {Q : Exit → Act → World → Prop}
/-- append(v, b), one byte. -/
theorem wp_app1 (hT : SliceTy P t e z 1) {v : Value} {l : List UInt8} {b : UInt8} {x : Int} (hown : Own w e v (l.map bv)) (hx : x = (b.toNat : Int)) (hn : l.length + 1 ≤ 140737488355328)
    (hgd : o.guard = none) (s y : Operand) (ho : o.op = .call { callee := .builtin .append, args := #[s, y], argTypes := #[t, t] }) (hs : a.eval s = v) (hy : a.eval y = .slice (some ⟨w.heap.size, 0, none⟩) 1 1)
    (h : ∀ v' w', Own w' e v' ((l ++ [b]).map bv) → Mod (own v) w w' → Next w.heap.size v v' → wpList P ops Q rest (a.put o.dst v') w') : wpList P ops Q (o :: rest) a (w.alloc (.cells #[.int .u8 x] e)) := by
  subst hx
  refine wp_app hT (hown.alloc _) (Sl.one w e (bv b)) (one_ok _ rfl) hgd s y ho hs hy (by simpa using hn) fun v' w' k1 k2 k3 => ?_
  exact h v' w' (by rw [List.map_append]; exact k1) (mod_app k2) (k3.sooner (by simp))
end
end Go.Proofs.YtblfhonfjljndaaDoor
namespace Go.Proofs.YtblfhonfjljndaaDoor
open Go.RowKit
set_option maxRecDepth 100000

/-- A row of records that the call owns. -/
def OwnR {α : Type} (f : α → List Value) (k : Nat) (w : World) (e : TypeId) (v : Value) (L : List α) : Prop := OwnK w e k v L.length (L.flatMap f)
section
variable {α : Type} {f : α → List Value} {k : Nat} {w w' : World} {e : TypeId} {v : Value} {L : List α} {F : Nat → Prop}
theorem OwnR.nil (f : α → List Value) (k : Nat) (w : World) (e : TypeId) : OwnR f k w e (.slice none 0 0) [] := OwnK.nil _ _ _
theorem OwnR.rc (h : OwnR f k w e v L) : Rc f k w (own v) v L := OwnK.slk h
theorem OwnR.mod (h : OwnR f k w e v L) (hm : Mod F w w') (hn : ∀ b, own v b → ¬ F b) : OwnR f k w' e v L := OwnK.mod h hm hn
theorem OwnR.ext (h : OwnR f k w e v L) (hm : Ext w w') : OwnR f k w' e v L := OwnK.mod h hm (fun _ _ h => h)
theorem OwnR.alloc (h : OwnR f k w e v L) (o : Obj) : OwnR f k (w.alloc o) e v L := OwnK.alloc h o
theorem OwnR.shape (h : OwnR f k w e v L) : ∃ A c, v = .slice A L.length c := OwnK.shape h
theorem OwnR.lt (h : OwnR f k w e v L) {b : Nat} (hb : own v b) : b < w.heap.size := OwnK.lt h hb
end

section
variable {P : Program} {w : World} {t e : TypeId} {z : Value} {k bytes : Nat} {ops : Array Oper} {rest : List Oper} {o : Oper} {a : Act} {Q : Exit → Act → World → Prop} {α : Type} {f : α → List Value}
theorem run_appR (hT : SliceTyK P t e z k bytes) (ty : TypeId) (hf : ∀ x, (f x).length = k) {v : Value} {L : List α} {x : α} {cs : Array Value} (hown : OwnR f k w e v L) (hcs : cs = (f x).toArray) (h1 : ∀ u ∈ f x, u.oneCell' = true) (hn : (L.length + 1) * bytes ≤ 140737488355328) :
    ∃ v' w', (Builtin.append_ #[t, t] ty #[v, .slice (some ⟨w.heap.size, 0, none⟩) 1 1]).run P (w.alloc (.cells cs e)) = .ok v' w' ∧ OwnR f k w' e v' (L ++ [x]) ∧ Mod (own v) w w' ∧ Next w.heap.size v v' := by
  subst hcs
  obtain ⟨v', w', hrun, h2, h3, h4⟩ := run_appk hT ty (OwnK.alloc hown (.cells (f x).toArray e)) (SlK.one w e (f x) k (hf x)) h1 hn
  refine ⟨v', w', hrun, ?_, mod_app h3, h4.sooner (by simp)⟩
  unfold OwnR
  rw [List.length_append, List.flatMap_append]
  simpa using h2
/-- append(v, x), one record. -/
theorem wp_appR (hT : SliceTyK P t e z k bytes) (hf : ∀ x, (f x).length = k) {v : Value} {L : List α} {x : α} {cs : Array Value} (hown : OwnR f k w e v L) (hcs : cs = (f x).toArray) (h1 : ∀ u ∈ f x, u.oneCell' = true) (hn : (L.length + 1) * bytes ≤ 140737488355328)
    (hgd : o.guard = none) (s y : Operand) (ho : o.op = .call { callee := .builtin .append, args := #[s, y], argTypes := #[t, t] }) (hs : a.eval s = v) (hy : a.eval y = .slice (some ⟨w.heap.size, 0, none⟩) 1 1)
    (h : ∀ v' w', OwnR f k w' e v' (L ++ [x]) → Mod (own v) w w' → Next w.heap.size v v' → wpList P ops Q rest (a.put o.dst v') w') : wpList P ops Q (o :: rest) a (w.alloc (.cells cs e)) := by
  refine wpList_plain hgd fun K hK => ?_
  obtain ⟨v', w', hrun, h2, h3, h4⟩ := run_appR (P := P) hT o.type hf hown hcs h1 hn
  unfold Oper.wp execOp
  simp only [ho, resolve, invoke, builtin, Sem.run_bind, Sem.run_pure, Result.andThen_ok, List.map_toArray, List.map_cons, List.map_nil, hs, hy, hrun]
  exact hK _ _ (h v' w' h2 h3 h4)
/-- The same at a step of a region that draws. -/
theorem step_appR {K : Act → World → Prop} {E : Prop} {d : Tmp} (hT : SliceTyK P t e z k bytes) (hf : ∀ x, (f x).length = k) {v : Value} {L : List α} {x : α} {cs : Array Value} (hown : OwnR f k w e v L) (hcs : cs = (f x).toArray) (h1 : ∀ u ∈ f x, u.oneCell' = true) (hn : (L.length + 1) * bytes ≤ 140737488355328)
    (hgd : o.guard = none) (hd : o.dst = some d) (s y : Operand) (ho : o.op = .call { callee := .builtin .append, args := #[s, y], argTypes := #[t, t] }) (hs : a.eval s = v) (hy : a.eval y = .slice (some ⟨w.heap.size, 0, none⟩) 1 1)
    (h : ∀ v' w', OwnR f k w' e v' (L ++ [x]) → Mod (own v) w w' → Next w.heap.size v v' → K (a.put o.dst v') w') : if Region.wanted o (yielded ops a.tmps) = true then Oper.wp P o a (w.alloc (.cells cs e)) K Q else E := by
  have hw : Region.wanted o (yielded ops a.tmps) = true := by simp [Region.wanted, hgd]
  rw [if_pos hw]
  obtain ⟨v', w', hrun, h2, h3, h4⟩ := run_appR (P := P) hT o.type hf hown hcs h1 hn
  unfold Oper.wp execOp
  simp only [ho, resolve, invoke, builtin, Sem.run_bind, Sem.run_pure, Result.andThen_ok, List.map_toArray, List.map_cons, List.map_nil, hs, hy, hrun]
  simp only [Oper.upon, hd]
  have := h v' w' h2 h3 h4
  rw [hd] at this
  exact this
/-- make([]T, 0, n). -/
theorem wp_makeR0 (hT : SliceTyK P t e z k bytes) (f : α → List Value) (n : Nat) (hgd : o.guard = none) (l c : Operand) (ho : o.op = Op.makeSlice t l c) {kl kc : IntKind}
    (hl : a.eval l = .int kl 0) (hc : a.eval c = .int kc (n : Int)) (hn : bytes * n ≤ 281474976710656)
    (h : ∀ w', OwnR f k w' e (.slice (some ⟨w.heap.size, 0, none⟩) 0 n) [] → Ext w w' → w.heap.size < w'.heap.size → wpList P ops Q rest (a.put o.dst (.slice (some ⟨w.heap.size, 0, none⟩) 0 n)) w') : wpList P ops Q (o :: rest) a w := by
  obtain ⟨i, hi, hz0, hz1, hz2⟩ := info_parts hT.hi
  have hb : 1 * n ≤ bytes * n := Nat.mul_le_mul_right _ hT.hb
  exact wpList_make_own w hgd l c t ho 0 e i z k hT.ht hi hz0 hz1 kl kc n n hl hc rfl (by rw [hz2]; exact hn) (by simp only [maxLen]; omega) (Nat.zero_le _) fun w' h1 h2 =>
    h w' h1 (Mod.of_grown h2 fun k hk => by cases hk) ((World.ownsRow.lt h1 _ rfl).2)
end
theorem avc_ok (a : List UInt8 × List UInt8) : ∀ u ∈ avc a, u.oneCell' = true := by
  intro u hu
  simp only [avc, List.mem_cons, List.not_mem_nil, or_false] at hu
  rcases hu with rfl | rfl <;> rfl
end Go.Proofs.YtblfhonfjljndaaDoor
