/- Strings: bytes as a text, over any program. -/
import Derived.Test.YtoockogceobfgaaGreatSized
import Derived.Laws.BytesArg
import Derived.ChangeMaps5
import Derived.SliceStrings
import Derived.SizedLaws
import Derived.Test.YtoockogceobfgaaGreatWords
import Derived.Deep.SlicePairs
import Derived.ChangeArms
import Derived.Laws.MakeOwn
import Derived.RegionTactic
import Derived.Test.YtoockogceobfgaaGreatRows
import Derived.Deep.RegionHeld3
import Derived.Lib.AppendStr
import Derived.Test.YtoockogceobfgaaGreatFrame
import Derived.Deep.CutBlock
import Derived.Deep.DeepCutAuto
namespace Go.Proofs.YtoockogceobfgaaGreat
open Go.RowKit

/-- A text as a value. -/
abbrev sv (l : List UInt8) : Value := .string ⟨l.toArray⟩

/-- string(b). -/
theorem run_conv {P : Program} {w : World} {S : Nat → Prop} {v : Value} {l : List UInt8} {src dst e : TypeId} (hs : P.underlying src = some (.slice e)) (he : P.underlying e = some (.int .u8)) (hd : P.underlying dst = some .string) (h : Bs w S v l) :
    (convert src dst v).run P w = .ok (sv l) w := by
  obtain ⟨A, c, rfl, h2, h3, h4, h5⟩ := h.open_
  rcases A with _ | ad
  · have : l = [] := List.eq_nil_of_length_eq_zero (by have := h4 rfl; omega)
    subst this
    exact run_convert_bytes_nil w src e hs he _ _ dst hd
  · have hl : (loadCells ad l.length).run P w = .ok ((l.map fun c => (c.toNat : Int)).map (Value.int .u8)).toArray w := by
      have := run_loadCells_list (P := P) w ad (l.map bv) (fun j v hj => by
        obtain ⟨ad', h1, _, h6⟩ := h5 j v hj
        injection h1 with h1
        subst h1
        exact h6)
      rw [List.length_map] at this
      rw [this, List.map_map]
      rfl
    rw [run_convert_bytes_string w src dst e _ _ c hs he hd, run_bytesToString w _ _ c _ hl, foldl_push_bytes]
    have h9 : (l.map fun c => (c.toNat : Int)).map (fun n => UInt8.ofNat n.toNat) = l := by
      rw [List.map_map]
      conv => rhs; rw [← List.map_id l]
      apply List.map_congr_left
      intro c _
      apply UInt8.toNat_inj.1
      show (UInt8.ofNat ((c.toNat : Int).toNat)).toNat = c.toNat
      rw [Int.toNat_natCast, UInt8.toNat_ofNat_of_lt' c.toNat_lt]
    rw [h9, show ByteArray.empty.data = #[] from rfl, Array.empty_append]
theorem run_convs {P : Program} {w : World} {S : Nat → Prop} {v : Value} {l : List UInt8} {src dst e : TypeId} (hs : P.underlying src = some (.slice e)) (he : P.underlying e = some (.int .u8)) (hd : P.underlying dst = some .string) (h : Bs w S v l) (n : Nat) :
    (convert src dst v).run P (w.drewN n) = .ok (sv l) (w.drewN n) := run_conv hs he hd (h.drewN n)
end Go.Proofs.YtoockogceobfgaaGreat
namespace Go.Proofs.YtoockogceobfgaaGreat
open Go.RowKit Go.WideShapes Go.ChangeShapes Go.Deep
set_option maxRecDepth 100000

/-- Rows of texts. -/
abbrev Ss (w : World) (S : Nat → Prop) (v : Value) (L : List (List UInt8)) : Prop := Sl w S v (L.map sv)

section
variable {H : Type} {enc : TypeId × Value → H} {P : Program} {W : World} {base : Nat} {spare : Nat → Bool} {held : Bool} {t e : TypeId} {v : Value} {d : DataW H} {p : List MemPlace}
theorem sv_of (s : ByteArray) : Value.string s = sv s.data.toList := by
  show Value.string s = .string ⟨s.data.toList.toArray⟩
  cases s
  simp
theorem str_in {r : Reach} {b0 : Nat} (ht : P.underlying t = some .string) (hv : Value.okWide P W r b0 t v) (h : DataW.Trod enc P W base spare held t v d p) :
    ∃ l : List UInt8, v = sv l ∧ l.length ≤ 9223372036854775807 := by
  obtain ⟨s, rfl, _, _, hs⟩ := Go.ChangeMaps.open_string ht hv h
  exact ⟨s.data.toList, sv_of s, by rw [Array.length_toList]; simpa [maxLen] using hs⟩
theorem strs_in (ht : P.underlying t = some (.slice e)) (he : P.underlying e = some .string) (hc : P.cellsOf e = 1) (hv : ∃ a len cap, v = .slice a len cap) (h : DataW.Trod enc P W base spare held t v d p) :
    ∃ L : List (List UInt8), Ss W (fun _ => True) v L ∧ ∀ l ∈ L, l.length ≤ 9223372036854775807 := by
  obtain ⟨a0, len0, cap0, rfl⟩ := hv
  obtain ⟨fuel, hf⟩ := h
  rcases Go.ChangeShapes.open_strings ht he hc hf with ⟨hcs, _⟩ | ⟨x, l, c, ss, hcs, _, hl, hm, hz, _, hcell, hwz⟩
  · simp [Value.cells] at hcs
    obtain ⟨rfl, rfl, rfl⟩ := hcs
    exact ⟨[], Sl.nil _ _, fun l hl => by cases hl⟩
  · simp [Value.cells] at hcs
    obtain ⟨rfl, rfl, rfl⟩ := hcs
    have hzl : len0 ≤ ss.length := by split at hz <;> omega
    refine ⟨(ss.take len0).map fun s => s.data.toList, ⟨x |> some, cap0, by simp; omega, by simp; omega, hm, by simp, fun k u hu => ⟨x, rfl, trivial, ?_⟩⟩, fun l hl => ?_⟩
    · rw [List.getElem?_map, List.getElem?_map, List.getElem?_take] at hu
      split at hu
      · rename_i hk
        have hk2 : k < ss.length := by omega
        rw [List.getElem?_eq_getElem hk2] at hu
        simp only [Option.map_some, Option.some.injEq] at hu
        have h2 := hcell k hk2
        rw [List.getD_eq_getElem?_getD, List.getElem?_eq_getElem hk2, Option.getD_some] at h2
        rw [h2, ← hu, sv_of]
      · simp at hu
    · obtain ⟨s, hs, rfl⟩ := List.mem_map.1 hl
      rw [Array.length_toList]
      simpa [maxLen] using hwz s (List.mem_of_mem_take hs)

theorem mem_weightsAll {e : TypeId} {n : Nat} {d : DataW H} : ∀ {ds : List (DataW H)}, d ∈ ds → n ∈ d.weights P e → n ∈ DataW.weightsAll P e ds
  | d0 :: ds, hd, hn => by
    simp only [DataW.weightsAll, List.mem_append]
    rcases List.mem_cons.1 hd with rfl | hd
    · exact .inl hn
    · exact .inr (mem_weightsAll hd hn)
theorem str_in_sized {ts : List TypeId} {ds : List (DataW H)} {j : Nat} {r : Reach} {b0 : Nat} (ht : P.underlying t = some .string) (hv : Value.okWide P W r b0 t v) (h : DataW.Trod enc P W base spare held t v d p)
    (hsz : (DataW.weightsEach P ts ds).all (· ≤ reachBytes) = true) (htj : ts[j]? = some t) (hj : ds[j]? = some d) :
    ∃ l : List UInt8, v = sv l ∧ l.length ≤ 140737488351232 := by
  obtain ⟨s, rfl, rfl, _, hs⟩ := Go.ChangeMaps.open_string ht hv h
  exact ⟨s.data.toList, sv_of s, sized_string hsz htj hj⟩
theorem strs_in_sized {ts : List TypeId} {ds : List (DataW H)} {j : Nat} (ht : P.underlying t = some (.slice e)) (he : P.underlying e = some .string) (hc : P.cellsOf e = 1) (hby : P.bytesOf e = 16) (hv : ∃ a len cap, v = .slice a len cap) (h : DataW.Trod enc P W base spare held t v d p)
    (hsz : (DataW.weightsEach P ts ds).all (· ≤ reachBytes) = true) (htj : ts[j]? = some t) (hj : ds[j]? = some d) :
    ∃ L : List (List UInt8), Ss W (fun _ => True) v L ∧ (∀ l ∈ L, l.length ≤ 140737488351232) ∧ L.length * 16 ≤ 140737488351232 := by
  obtain ⟨a0, len0, cap0, rfl⟩ := hv
  obtain ⟨fuel, hf⟩ := h
  rcases Go.ChangeShapes.open_strings ht he hc hf with ⟨hcs, _⟩ | ⟨x, l, c, ss, hcs, _, hl, hm, hz, hx, hcell, hwz⟩
  · simp [Value.cells] at hcs
    obtain ⟨rfl, rfl, rfl⟩ := hcs
    exact ⟨[], Sl.nil _ _, (fun l hl => by cases hl), by simp⟩
  · simp [Value.cells] at hcs
    obtain ⟨rfl, rfl, rfl⟩ := hcs
    have hzl : len0 ≤ ss.length := by split at hz <;> omega
    injection hx with hd _
    subst hd
    have hs1 := sized_slice hsz htj hj ht
    rw [hby] at hs1
    simp only [Go.ChangeShapes.strs, List.length_map, List.length_take, List.length_drop, reachBytes] at hs1
    refine ⟨(ss.take len0).map fun s => s.data.toList, ⟨x |> some, cap0, by simp; omega, by simp; omega, hm, by simp, fun k u hu => ⟨x, rfl, trivial, ?_⟩⟩, fun l hl => ?_, by rw [List.length_map, List.length_take]; omega⟩
    · rw [List.getElem?_map, List.getElem?_map, List.getElem?_take] at hu
      split at hu
      · rename_i hk
        have hk2 : k < ss.length := by omega
        rw [List.getElem?_eq_getElem hk2] at hu
        simp only [Option.map_some, Option.some.injEq] at hu
        have h2 := hcell k hk2
        rw [List.getD_eq_getElem?_getD, List.getElem?_eq_getElem hk2, Option.getD_some] at h2
        rw [h2, ← hu, sv_of]
      · simp at hu
    · obtain ⟨s, hs, rfl⟩ := List.mem_map.1 hl
      have hmem : (DataW.lit (.string s.data.toList) : DataW H) ∈ (Go.ChangeShapes.strs (ss.take len0) : List (DataW H)) := List.mem_map.2 ⟨s, hs, rfl⟩
      have hw : s.data.toList.length ∈ DataW.weightsAll P e (Go.ChangeShapes.strs (ss.take len0) : List (DataW H)) := mem_weightsAll hmem (by simp [DataW.weights])
      have := List.all_eq_true.1 hsz _ (DataW.weights_mem_each htj hj s.data.toList.length (by simp only [DataW.weights, ht]; exact List.mem_cons_of_mem _ (List.mem_append_left _ hw)))
      exact of_decide_eq_true this
end
end Go.Proofs.YtoockogceobfgaaGreat
namespace Go.Proofs.YtoockogceobfgaaGreat
open Go.RowKit

/-- v is nil, or begins at the head of a row of n e's of k cells each that reads as xs (flat) and goes on to v's capacity. -/
def OwnK (w : World) (e : TypeId) (k : Nat) (v : Value) (n : Nat) (xs : List Value) : Prop := w.ownsRow 0 e k v n xs
/-- v is a slice of n elements of k cells each that reads as xs (flat). -/
def SlK (w : World) (S : Nat → Prop) (k : Nat) (v : Value) (n : Nat) (xs : List Value) : Prop :=
  ∃ A c, v = .slice A n c ∧ n ≤ c ∧ c ≤ maxLen ∧ (A = none → c = 0) ∧ xs.length = n * k ∧ Cells w S A xs
/-- t is the type of slices of e's; an e is k cells, z at first, of so many bytes. -/
structure SliceTyK (P : Program) (t e : TypeId) (z : Value) (k bytes : Nat) : Prop where
  ht : P.underlying t = some (.slice e)
  hi : (P.info? e).map (fun i => (i.zero, i.size, i.bytes)) = some (some z, k, bytes)
  hz : z.cells.size = k
  hk : 0 < k
  hb : 1 ≤ bytes

section
variable {w w' : World} {e : TypeId} {k n : Nat} {v : Value} {xs : List Value} {F S T : Nat → Prop}
theorem OwnK.nil (w : World) (e : TypeId) (k : Nat) : OwnK w e k (.slice none 0 0) 0 [] := World.ownsRow_nil w 0 e k
theorem OwnK.lt (h : OwnK w e k v n xs) {b : Nat} (hb : own v b) : b < w.heap.size := (World.ownsRow.lt h b hb).2
theorem OwnK.mod (h : OwnK w e k v n xs) (hm : Mod F w w') (hn : ∀ b, own v b → ¬ F b) : OwnK w' e k v n xs := by
  refine ⟨h.1, ?_⟩
  rcases h.2 with h2 | ⟨g, cap, cur, hv, hg, hh, r⟩
  · exact .inl h2
  · exact .inr ⟨g, cap, cur, hv, hg, (hm.block g (lt_of_block hh) (hn g (by rw [hv]; rfl))).trans hh, r⟩
theorem OwnK.alloc (h : OwnK w e k v n xs) (o : Obj) : OwnK (w.alloc o) e k v n xs := h.mod ((Mod.refl (fun _ => False) w).alloc o) fun _ _ h => h
theorem OwnK.form (h : OwnK w e k v n xs) : (v = .slice none 0 0 ∧ n = 0) ∨ ∃ g cap, v = .slice (some ⟨g, 0, none⟩) n cap ∧ n ≤ cap ∧ cap ≤ maxLen ∧ g < w.heap.size := by
  rcases h.2 with h2 | ⟨g, cap, cur, hv, hg, hh, r1, r2, _⟩
  · exact .inl h2
  · exact .inr ⟨g, cap, hv, r1, r2, lt_of_block hh⟩
theorem OwnK.shape (h : OwnK w e k v n xs) : ∃ A c, v = .slice A n c := by
  rcases h.form with ⟨rfl, rfl⟩ | ⟨g, cap, rfl, _⟩
  · exact ⟨_, _, rfl⟩
  · exact ⟨_, _, rfl⟩
theorem OwnK.len (h : OwnK w e k v n xs) : xs.length = n * k := h.1
theorem OwnK.slk (h : OwnK w e k v n xs) : SlK w (own v) k v n xs := by
  have hl := h.len
  rcases h.form with ⟨rfl, rfl⟩ | ⟨g, cap, rfl, h1, h2, h3⟩
  · refine ⟨none, 0, rfl, Nat.le_refl _, Nat.zero_le _, fun _ => rfl, hl, fun j u hu => ?_⟩
    have : xs = [] := List.eq_nil_of_length_eq_zero (by rw [hl, Nat.zero_mul])
    rw [this] at hu
    simp at hu
  · exact ⟨_, _, rfl, h1, h2, by simp, hl, fun j u hu => ⟨_, rfl, rfl, World.ownsRow.cells h (g := g) rfl j u hu⟩⟩
/-- A literal of one element. -/
theorem SlK.one (w : World) (e : TypeId) (cs : List Value) (k : Nat) (hk : cs.length = k) : SlK (w.alloc (.cells cs.toArray e)) (fun b => b = w.heap.size) k (.slice (some ⟨w.heap.size, 0, none⟩) 1 1) 1 cs :=
  ⟨_, _, rfl, Nat.le_refl _, by simp [maxLen], by simp, by rw [hk, Nat.one_mul], fun j u hu => ⟨_, rfl, rfl, by
    rw [add_lit, cell_of_row _ w.heap.size j cs.toArray e (0, 0) (heap_alloc_new w _)]
    simpa using hu⟩⟩
theorem SlK.mod (h : SlK w S k v n xs) (hm : Mod F w w') (hn : ∀ b, b < w.heap.size → S b → ¬ F b) : SlK w' S k v n xs := by
  obtain ⟨A, c, h1, h2, h3, h4, h5, h6⟩ := h
  exact ⟨A, c, h1, h2, h3, h4, h5, h6.mod hm hn⟩
theorem SlK.mono (h : SlK w S k v n xs) (hS : ∀ b, b < w.heap.size → S b → T b) : SlK w T k v n xs := by
  obtain ⟨A, c, h1, h2, h3, h4, h5, h6⟩ := h
  exact ⟨A, c, h1, h2, h3, h4, h5, h6.mono hS⟩
/-- The cell j of element i. -/
theorem SlK.at_ {A : Option Addr} {c i j : Nat} {u : Value} (h : SlK w S k (.slice A n c) n xs) (hu : xs[i * k + j]? = some u) : ∃ ad, A = some ad ∧ S ad.block ∧ w.cell? (ad.add (i * k + j)) = some u := by
  obtain ⟨A', c', h1, _, _, _, _, h6⟩ := h
  injection h1 with h1
  subst h1
  exact h6 _ _ hu
end

section
variable {P : Program} {w : World} {t e : TypeId} {z : Value} {k bytes n m : Nat} {S : Nat → Prop}
theorem run_appk (hT : SliceTyK P t e z k bytes) (ty : TypeId) {v y : Value} {xs news : List Value} (hown : OwnK w e k v n xs) (hr : SlK w S k y m news) (h1 : ∀ u ∈ news, u.oneCell' = true)
    (hn : (n + m) * bytes ≤ 140737488355328) :
    ∃ v' w', (Builtin.append_ #[t, t] ty #[v, y]).run P w = .ok v' w' ∧ OwnK w' e k v' (n + m) (xs ++ news) ∧ Mod (own v) w w' ∧ Next w.heap.size v v' := by
  obtain ⟨i, hi, hz0, hz1, hz2⟩ := info_parts hT.hi
  obtain ⟨A, c, rfl, hc, hm, hA, hlen, hcell⟩ := hr
  have hpos := hT.hb
  have h63 : n + m ≤ maxLen := by
    have : (n + m) * 1 ≤ (n + m) * bytes := Nat.mul_le_mul_left _ hpos
    simp only [maxLen]; omega
  rcases A with _ | ad
  · have hc0 := hA rfl
    have hm0 : m = 0 := by omega
    subst hm0
    subst hc0
    have hn0 : news = [] := List.eq_nil_of_length_eq_zero (by rw [hlen, Nat.zero_mul])
    subst hn0
    refine ⟨v, w, ?_, by simpa using hown, Mod.refl _ _, Next.refl _ _⟩
    rcases hown.2 with ⟨rfl, h0⟩ | ⟨g, cap, cur, rfl, _, _, hnc, _⟩
    · simp [Builtin.append_, run_underlying hT.ht, sizeOf, typeInfo, hi, Builtin.lenOf, Builtin.firstCells]
    · simp [Builtin.append_, run_underlying hT.ht, sizeOf, typeInfo, hi, Builtin.lenOf, Builtin.firstCells, hnc, storeCells]
  · have hcells : ∀ j u, news[j]? = some u → w.cell? (ad.add j) = some u := by
      intro j u hu
      obtain ⟨ad', h, _, hc⟩ := hcell j u hu
      injection h with h
      subst h
      exact hc
    obtain ⟨v', w', hrun, h2, h3, _, h5⟩ := run_append_own_at (P := P) w 0 t ty e i z k bytes hT.ht hi hz0 hz1 hz2 hT.hz hT.hk v n xs hown ad m c news hlen hcells h1 h63 hn (Nat.zero_le _)
    refine ⟨v', w', hrun, h2, Mod.of_grown h3 fun k hk => hk, ?_⟩
    rcases h5 with h5 | h5
    · exact .inl h5
    · exact .inr fun k hk => by rw [h5] at hk; injection hk with hk; omega

variable {ops : Array Oper} {rest : List Oper} {o : Oper} {a : Act} {Q : Exit → Act → World → Prop}
theorem wp_appk (hT : SliceTyK P t e z k bytes) {v y : Value} {xs news : List Value} (hown : OwnK w e k v n xs) (hr : SlK w S k y m news) (h1 : ∀ u ∈ news, u.oneCell' = true)
    (hgd : o.guard = none) (s x : Operand) (ho : o.op = .call { callee := .builtin .append, args := #[s, x], argTypes := #[t, t] }) (hs : a.eval s = v) (hx : a.eval x = y)
    (hn : (n + m) * bytes ≤ 140737488355328)
    (h : ∀ v' w', OwnK w' e k v' (n + m) (xs ++ news) → Mod (own v) w w' → Next w.heap.size v v' → wpList P ops Q rest (a.put o.dst v') w') : wpList P ops Q (o :: rest) a w := by
  refine wpList_plain hgd fun K hK => ?_
  obtain ⟨v', w', hrun, h2, h3, h4⟩ := run_appk (P := P) hT o.type hown hr h1 hn
  unfold Oper.wp execOp
  simp only [ho, resolve, invoke, builtin, Sem.run_bind, Sem.run_pure, Result.andThen_ok, List.map_toArray, List.map_cons, List.map_nil, hs, hx, hrun]
  exact hK _ _ (h v' w' h2 h3 h4)
end
end Go.Proofs.YtoockogceobfgaaGreat
namespace Go.Proofs.YtoockogceobfgaaGreat
open Go.RowKit Go.WideShapes Go.ChangeShapes Go.Deep
set_option maxRecDepth 100000

theorem flat_at {α : Type} {f : α → List Value} {k : Nat} (hf : ∀ a, (f a).length = k) : ∀ (L : List α) (i j : Nat) (hi : i < L.length), j < k → (L.flatMap f)[i * k + j]? = (f L[i])[j]?
  | a :: L, 0, j, _, hj => by
    rw [List.flatMap_cons, Nat.zero_mul, Nat.zero_add, List.getElem?_append_left (by rw [hf]; exact hj)]
    rfl
  | a :: L, i + 1, j, hi, hj => by
    rw [List.flatMap_cons, List.getElem?_append_right (by rw [hf, Nat.succ_mul]; omega), hf, show (i + 1) * k + j - k = i * k + j by rw [Nat.succ_mul]; omega]
    exact flat_at hf L i j (by simpa using hi) hj
theorem flat_len {α : Type} {f : α → List Value} {k : Nat} (hf : ∀ a, (f a).length = k) : ∀ L : List α, (L.flatMap f).length = L.length * k
  | [] => by simp
  | a :: L => by rw [List.flatMap_cons, List.length_append, hf, flat_len hf L, List.length_cons, Nat.succ_mul]; omega
theorem flat_take {α : Type} {f : α → List Value} {k : Nat} (hf : ∀ a, (f a).length = k) : ∀ (L : List α) (n : Nat), (L.flatMap f).take (n * k) = (L.take n).flatMap f
  | [], n => by simp
  | a :: L, 0 => by simp
  | a :: L, n + 1 => by
    rw [List.flatMap_cons, List.take_succ_cons, List.flatMap_cons, Nat.succ_mul, Nat.add_comm, ← flat_take hf L n, ← hf a, List.take_length_add_append]
theorem flat_drop {α : Type} {f : α → List Value} {k : Nat} (hf : ∀ a, (f a).length = k) : ∀ (L : List α) (n : Nat), (L.flatMap f).drop (n * k) = (L.drop n).flatMap f
  | [], n => by simp
  | a :: L, 0 => by simp
  | a :: L, n + 1 => by
    rw [List.flatMap_cons, List.drop_succ_cons, Nat.succ_mul, Nat.add_comm, ← flat_drop hf L n, ← hf a, List.drop_length_add_append]

/-- v is a slice of records: a record is the k cells f a. -/
def Rc {α : Type} (f : α → List Value) (k : Nat) (w : World) (S : Nat → Prop) (v : Value) (L : List α) : Prop := SlK w S k v L.length (L.flatMap f)
/-- The records lie at A, in blocks of S. -/
def RcAt {α : Type} (f : α → List Value) (k : Nat) (w : World) (S : Nat → Prop) (A : Option Addr) (L : List α) : Prop :=
  ∀ i j u (hi : i < L.length), j < k → (f L[i])[j]? = some u → ∃ ad, A = some ad ∧ S ad.block ∧ w.cell? (ad.add (i * k + j)) = some u

section
variable {α : Type} {f : α → List Value} {k : Nat} {w w' : World} {S T F : Nat → Prop} {A : Option Addr} {v : Value} {L : List α} {c m : Nat}
theorem Rc.mod (h : Rc f k w S v L) (hm : Mod F w w') (hn : ∀ b, b < w.heap.size → S b → ¬ F b) : Rc f k w' S v L := SlK.mod h hm hn
theorem Rc.ext (h : Rc f k w S v L) (hm : Ext w w') : Rc f k w' S v L := SlK.mod h hm (fun _ _ _ h => h)
theorem Rc.mono (h : Rc f k w S v L) (hS : ∀ b, b < w.heap.size → S b → T b) : Rc f k w T v L := SlK.mono h hS
theorem Rc.drewN (h : Rc f k w S v L) (n : Nat) : Rc f k (w.drewN n) S v L := h
theorem Rc.nil (f : α → List Value) (k : Nat) (w : World) (S : Nat → Prop) : Rc f k w S (.slice none 0 0) [] := ⟨none, 0, rfl, Nat.le_refl _, Nat.zero_le _, fun _ => rfl, by simp, Cells.nil _ _ _⟩
theorem Rc.open_ (hf : ∀ a, (f a).length = k) (h : Rc f k w S v L) : ∃ A c, v = .slice A L.length c ∧ L.length ≤ c ∧ c ≤ 9223372036854775807 ∧ (A = none → c = 0) ∧ RcAt f k w S A L := by
  obtain ⟨A, c, h1, h2, h3, h4, h5, h6⟩ := h
  exact ⟨A, c, h1, h2, by simpa [maxLen] using h3, h4, fun i j u hi hj hu => h6 _ _ (by rw [flat_at hf L i j hi hj]; exact hu)⟩
theorem Rc.shape (h : Rc f k w S v L) : ∃ A c, v = .slice A L.length c := by
  obtain ⟨A, c, h1, _⟩ := h
  exact ⟨A, c, h1⟩
theorem RcAt.ext (h : RcAt f k w S A L) (hm : Ext w w') : RcAt f k w' S A L := fun i j u hi hj hu => by
  obtain ⟨ad, h1, h2, h3⟩ := h i j u hi hj hu
  exact ⟨ad, h1, h2, (hm.cell (lt_of_cell h3) (fun h => h)).trans h3⟩
theorem RcAt.mod (h : RcAt f k w S A L) (hm : Mod F w w') (hn : ∀ b, b < w.heap.size → S b → ¬ F b) : RcAt f k w' S A L := fun i j u hi hj hu => by
  obtain ⟨ad, h1, h2, h3⟩ := h i j u hi hj hu
  have hlt := lt_of_cell h3
  exact ⟨ad, h1, h2, (hm.cell hlt (by rw [block_of_add] at hlt ⊢; exact hn _ hlt h2)).trans h3⟩
/-- v[:m]. -/
theorem Rc.begin (hf : ∀ a, (f a).length = k) (h : Rc f k w S (.slice A L.length c) L) (hm : m ≤ L.length) : Rc f k w S (.slice A m c) (L.take m) := by
  obtain ⟨A', c', h1, h2, h3, h4, h5, h6⟩ := h
  injection h1 with e1 _ e3
  subst e1; subst e3
  exact ⟨A, c, by simp [Nat.min_eq_left hm], by simp; omega, h3, h4, by rw [flat_len hf], by rw [← flat_take hf]; exact h6.take _⟩
/-- v[m:], of a slice that goes on behind m. -/
theorem Rc.rest (hf : ∀ a, (f a).length = k) (h : Rc f k w S (.slice A L.length c) L) (hm : m ≤ L.length) : Rc f k w S (.slice (A.map (fun x => x.add (m * k))) (L.length - m) (c - m)) (L.drop m) := by
  obtain ⟨A', c', h1, h2, h3, h4, h5, h6⟩ := h
  injection h1 with e1 _ e3
  subst e1; subst e3
  refine ⟨A.map (fun x => x.add (m * k)), c - m, by simp, by simp; omega, by omega, fun he => ?_, by rw [flat_len hf], by rw [← flat_drop hf]; exact h6.drop _⟩
  have := h4 (by cases A <;> simp_all); omega
/-- v[c:], at the slice's room. -/
theorem Rc.rest0 (h : Rc f k w S (.slice A L.length c) L) (hm : m ≤ L.length) (hc : c = m) : Rc f k w S (.slice A (L.length - m) 0) (L.drop m) := by
  obtain ⟨A', c', h1, h2, h3, h4, h5, h6⟩ := h
  injection h1 with e1 _ e3
  subst e1; subst e3
  have e : L.drop m = [] := List.drop_of_length_le (by omega)
  rw [e]
  exact ⟨A, 0, by simp; omega, by simp, by simp, fun _ => rfl, by simp, by simpa using Cells.nil _ _ _⟩
end

/-- A record of two texts. -/
abbrev avc (a : List UInt8 × List UInt8) : List Value := [sv a.1, sv a.2]
theorem avc_len (a : List UInt8 × List UInt8) : (avc a).length = 2 := rfl
abbrev As (w : World) (S : Nat → Prop) (v : Value) (L : List (List UInt8 × List UInt8)) : Prop := Rc avc 2 w S v L
theorem add_next (a : Addr) (i j : Nat) (hj : 0 < j) : a.add (i + j) = ⟨(a.add i).block, (a.add i).off + j, none⟩ := by
  unfold Addr.add
  by_cases hi : i = 0
  · subst hi; simp; omega
  · rw [if_neg (by omega), if_neg hi]; simp [Nat.add_assoc]
theorem As.at_ {w : World} {S : Nat → Prop} {A : Option Addr} {L : List (List UInt8 × List UInt8)} (h : RcAt avc 2 w S A L) {i : Nat} (hi : i < L.length) :
    ∃ ad, A = some ad ∧ S ad.block ∧ w.cell? (ad.add (i * 2)) = some (sv L[i].1) ∧ w.cell? ⟨(ad.add (i * 2)).block, (ad.add (i * 2)).off + 1, none⟩ = some (sv L[i].2) := by
  obtain ⟨ad, h1, h2, h3⟩ := h i 0 _ hi (by omega) rfl
  obtain ⟨ad', h1', _, h4⟩ := h i 1 _ hi (by omega) rfl
  rw [h1] at h1'
  injection h1' with h1'
  subst h1'
  rw [add_next _ _ 1 (by omega)] at h4
  exact ⟨ad, h1, h2, h3, h4⟩

section
variable {H : Type} {enc : TypeId × Value → H} {P : Program} {W : World} {base : Nat} {spare : Nat → Bool} {held : Bool} {t e : TypeId} {v : Value} {d : DataW H} {p : List MemPlace}
theorem avas_in_sized {ts : List TypeId} {ds : List (DataW H)} {j : Nat} {f0 f1 : Field} (ht : P.underlying t = some (.slice e)) (he : P.underlying e = some (.struct #[f0, f1])) (ce : P.cellsOf e = 2) (o0 : f0.offset = 0) (o1 : f1.offset = 1) (c0 : P.cellsOf f0.type = 1) (c1 : P.cellsOf f1.type = 1)
    (s0 : P.underlying f0.type = some .string) (s1 : P.underlying f1.type = some .string) (hby : P.bytesOf e = 32) (hv : ∃ a len cap, v = .slice a len cap) (h : DataW.Trod enc P W base spare held t v d p)
    (hsz : (DataW.weightsEach P ts ds).all (· ≤ reachBytes) = true) (htj : ts[j]? = some t) (hj : ds[j]? = some d) :
    ∃ L, As W (fun _ => True) v L ∧ (∀ a ∈ L, a.1.length ≤ 140737488351232 ∧ a.2.length ≤ 140737488351232) ∧ L.length * 32 ≤ 140737488351232 := by
  obtain ⟨a0, len0, cap0, rfl⟩ := hv
  obtain ⟨fuel, hf⟩ := h
  rcases open_slice_pairs ht he ce o0 o1 c0 c1 hf with ⟨hcs, _⟩ | ⟨a, len, cap, m, n, V0, V1, D0, D1, P0, P1, hcs, _, hl, hm, hmm, hx, hcell⟩
  · simp [Value.cells] at hcs
    obtain ⟨rfl, rfl, rfl⟩ := hcs
    exact ⟨[], Rc.nil _ _ _ _, (fun l hl => by cases hl), by simp⟩
  · simp [Value.cells] at hcs
    obtain ⟨rfl, rfl, rfl⟩ := hcs
    have hlm : len0 ≤ m := by rw [hmm]; split <;> omega
    injection hx with hd _
    subst hd
    have each : ∀ i, ∃ q : List UInt8 × List UInt8, i < m → V0 i = sv q.1 ∧ V1 i = sv q.2 ∧ D0 i = .lit (.string q.1) ∧ D1 i = .lit (.string q.2) := by
      intro i
      by_cases hi : i < m
      · obtain ⟨_, _, g0, g1⟩ := hcell i hi
        obtain ⟨x0, y0, z0, _⟩ := DataW.trod_string s0 g0
        obtain ⟨x1, y1, z1, _⟩ := DataW.trod_string s1 g1
        injection y0 with y0; injection y1 with y1
        injection z0 with z0 _; injection z1 with z1 _
        exact ⟨(x0.data.toList, x1.data.toList), fun _ => ⟨y0.trans (sv_of x0), y1.trans (sv_of x1), z0, z1⟩⟩
      · exact ⟨([], []), fun h => absurd h hi⟩
    obtain ⟨q, hq⟩ := Classical.axiomOfChoice each
    have hs1 := sized_slice hsz htj hj ht
    rw [hby] at hs1
    simp only [List.length_map, List.length_range, reachBytes] at hs1
    refine ⟨(List.range len0).map q, ⟨some a, cap0, by simp, by simp; omega, hm, by simp, by rw [flat_len avc_len], fun k u hu => ⟨a, rfl, trivial, ?_⟩⟩, fun l hl => ?_, by rw [List.length_map, List.length_range]; omega⟩
    · have hk : k < len0 * 2 := by
        have := (List.getElem?_eq_some_iff.1 hu).1
        rw [flat_len avc_len] at this
        simpa using this
      obtain ⟨i, b, hb, rfl⟩ : ∃ i b, b < 2 ∧ k = i * 2 + b := ⟨k / 2, k % 2, by omega, by omega⟩
      have hi : i < len0 := by omega
      rw [flat_at avc_len _ i b (by simpa using hi) hb] at hu
      simp only [List.getElem_map, List.getElem_range] at hu
      obtain ⟨k0, k1, _, _⟩ := hcell i (by omega)
      obtain ⟨u0, u1, _, _⟩ := hq i (by omega)
      match b, hb with
      | 0, _ => simp at hu; rw [Nat.add_zero, k0, u0, hu]
      | 1, _ => simp at hu; rw [k1, u1, hu]
    · obtain ⟨i, hi, rfl⟩ := List.mem_map.1 hl
      have hi' := List.mem_range.1 hi
      obtain ⟨_, _, u0, u1⟩ := hq i (by omega)
      have hmem : (DataW.agg [D0 i, D1 i] : DataW H) ∈ (List.range len0).map fun i => (DataW.agg [D0 i, D1 i] : DataW H) := List.mem_map.2 ⟨i, hi, rfl⟩
      have hw : ∀ n, n ∈ (DataW.agg [D0 i, D1 i] : DataW H).weights P e → n ≤ reachBytes := fun n hn => by
        have := List.all_eq_true.1 hsz _ (DataW.weights_mem_each htj hj n (by simp only [DataW.weights, ht]; exact List.mem_cons_of_mem _ (List.mem_append_left _ (mem_weightsAll hmem hn))))
        exact of_decide_eq_true this
      have hh : (DataW.agg [D0 i, D1 i] : DataW H).weights P e = [(q i).1.length, (q i).2.length] := by
        simp [DataW.weights, he, DataW.weightsEach, u0, u1]
      exact ⟨hw _ (by rw [hh]; simp), hw _ (by rw [hh]; simp)⟩
end
end Go.Proofs.YtoockogceobfgaaGreat
namespace Go.Proofs.YtoockogceobfgaaGreat
open Go.RowKit
set_option maxRecDepth 100000

theorem byte_of {n : Nat} (h : n < 256) : Value.int .u8 (n : Int) = bv (UInt8.ofNat n) := by
  show _ = Value.int .u8 ((UInt8.ofNat n).toNat : Int)
  rw [u8_ofNat' _ h]
theorem Next.sooner {B B' : Nat} {v v' : Value} (h : Next B v v') (hB : B' ≤ B) : Next B' v v' := (Next.refl B' v).trans h hB
theorem one_ok (u : Value) (h : u.oneCell' = true) : ∀ x ∈ [u], x.oneCell' = true := by
  intro x hx
  rw [List.mem_singleton] at hx
  rw [hx]; exact h
theorem mod_app {a c : World} {o : Obj} {v : Value} (h : Mod (own v) (a.alloc o) c) : Mod (own v) a c := (Mod.alloc (Mod.refl _ a) o).then_ h (fun _ _ h => h)

section
variable {P : Program} {w : World} {t e : TypeId} {z : Value} {ops : Array Oper} {rest : List Oper} {o : Oper} {a : Act} {Q : Exit → Act → World → Prop}
/-- append(v, b), one byte. -/
theorem wp_app1 (hT : SliceTy P t e z 1) {v : Value} {l : List UInt8} {b : UInt8} {x : Int} (hown : Own w e v (l.map bv)) (hx : x = (b.toNat : Int)) (hn : l.length + 1 ≤ 140737488355328)
    (hgd : o.guard = none) (s y : Operand) (ho : o.op = .call { callee := .builtin .append, args := #[s, y], argTypes := #[t, t] }) (hs : a.eval s = v) (hy : a.eval y = .slice (some ⟨w.heap.size, 0, none⟩) 1 1)
    (h : ∀ v' w', Own w' e v' ((l ++ [b]).map bv) → Mod (own v) w w' → Next w.heap.size v v' → wpList P ops Q rest (a.put o.dst v') w') : wpList P ops Q (o :: rest) a (w.alloc (.cells #[.int .u8 x] e)) := by
  subst hx
  refine wp_app hT (hown.alloc _) (Sl.one w e (bv b)) (one_ok _ rfl) hgd s y ho hs hy (by simpa using hn) fun v' w' k1 k2 k3 => ?_
  exact h v' w' (by rw [List.map_append]; exact k1) (mod_app k2) (k3.sooner (by simp))
end
end Go.Proofs.YtoockogceobfgaaGreat
namespace Go.Proofs.YtoockogceobfgaaGreat
open Go.RowKit
set_option maxRecDepth 100000

/-- A row of records that the call owns. -/
def OwnR {α : Type} (f : α → List Value) (k : Nat) (w : World) (e : TypeId) (v : Value) (L : List α) : Prop := OwnK w e k v L.length (L.flatMap f)
section
variable {α : Type} {f : α → List Value} {k : Nat} {w w' : World} {e : TypeId} {v : Value} {L : List α} {F : Nat → Prop}
theorem OwnR.nil (f : α → List Value) (k : Nat) (w : World) (e : TypeId) : OwnR f k w e (.slice none 0 0) [] := OwnK.nil _ _ _
theorem OwnR.rc (h : OwnR f k w e v L) : Rc f k w (own v) v L := OwnK.slk h
theorem OwnR.mod (h : OwnR f k w e v L) (hm : Mod F w w') (hn : ∀ b, own v b → ¬ F b) : OwnR f k w' e v L := OwnK.mod h hm hn
theorem OwnR.ext (h : OwnR f k w e v L) (hm : Ext w w') : OwnR f k w' e v L := OwnK.mod h hm (fun _ _ h => h)
theorem OwnR.alloc (h : OwnR f k w e v L) (o : Obj) : OwnR f k (w.alloc o) e v L := OwnK.alloc h o
theorem OwnR.shape (h : OwnR f k w e v L) : ∃ A c, v = .slice A L.length c := OwnK.shape h
theorem OwnR.lt (h : OwnR f k w e v L) {b : Nat} (hb : own v b) : b < w.heap.size := OwnK.lt h hb
end

section
variable {P : Program} {w : World} {t e : TypeId} {z : Value} {k bytes : Nat} {ops : Array Oper} {rest : List Oper} {o : Oper} {a : Act} {Q : Exit → Act → World → Prop} {α : Type} {f : α → List Value}
theorem run_appR (hT : SliceTyK P t e z k bytes) (ty : TypeId) (hf : ∀ x, (f x).length = k) {v : Value} {L : List α} {x : α} {cs : Array Value} (hown : OwnR f k w e v L) (hcs : cs = (f x).toArray) (h1 : ∀ u ∈ f x, u.oneCell' = true) (hn : (L.length + 1) * bytes ≤ 140737488355328) :
    ∃ v' w', (Builtin.append_ #[t, t] ty #[v, .slice (some ⟨w.heap.size, 0, none⟩) 1 1]).run P (w.alloc (.cells cs e)) = .ok v' w' ∧ OwnR f k w' e v' (L ++ [x]) ∧ Mod (own v) w w' ∧ Next w.heap.size v v' := by
  subst hcs
  obtain ⟨v', w', hrun, h2, h3, h4⟩ := run_appk hT ty (OwnK.alloc hown (.cells (f x).toArray e)) (SlK.one w e (f x) k (hf x)) h1 hn
  refine ⟨v', w', hrun, ?_, mod_app h3, h4.sooner (by simp)⟩
  unfold OwnR
  rw [List.length_append, List.flatMap_append]
  simpa using h2
/-- append(v, x), one record. -/
theorem wp_appR (hT : SliceTyK P t e z k bytes) (hf : ∀ x, (f x).length = k) {v : Value} {L : List α} {x : α} {cs : Array Value} (hown : OwnR f k w e v L) (hcs : cs = (f x).toArray) (h1 : ∀ u ∈ f x, u.oneCell' = true) (hn : (L.length + 1) * bytes ≤ 140737488355328)
    (hgd : o.guard = none) (s y : Operand) (ho : o.op = .call { callee := .builtin .append, args := #[s, y], argTypes := #[t, t] }) (hs : a.eval s = v) (hy : a.eval y = .slice (some ⟨w.heap.size, 0, none⟩) 1 1)
    (h : ∀ v' w', OwnR f k w' e v' (L ++ [x]) → Mod (own v) w w' → Next w.heap.size v v' → wpList P ops Q rest (a.put o.dst v') w') : wpList P ops Q (o :: rest) a (w.alloc (.cells cs e)) := by
  refine wpList_plain hgd fun K hK => ?_
  obtain ⟨v', w', hrun, h2, h3, h4⟩ := run_appR (P := P) hT o.type hf hown hcs h1 hn
  unfold Oper.wp execOp
  simp only [ho, resolve, invoke, builtin, Sem.run_bind, Sem.run_pure, Result.andThen_ok, List.map_toArray, List.map_cons, List.map_nil, hs, hy, hrun]
  exact hK _ _ (h v' w' h2 h3 h4)
/-- The same at a step of a region that draws. -/
theorem step_appR {K : Act → World → Prop} {E : Prop} {d : Tmp} (hT : SliceTyK P t e z k bytes) (hf : ∀ x, (f x).length = k) {v : Value} {L : List α} {x : α} {cs : Array Value} (hown : OwnR f k w e v L) (hcs : cs = (f x).toArray) (h1 : ∀ u ∈ f x, u.oneCell' = true) (hn : (L.length + 1) * bytes ≤ 140737488355328)
    (hgd : o.guard = none) (hd : o.dst = some d) (s y : Operand) (ho : o.op = .call { callee := .builtin .append, args := #[s, y], argTypes := #[t, t] }) (hs : a.eval s = v) (hy : a.eval y = .slice (some ⟨w.heap.size, 0, none⟩) 1 1)
    (h : ∀ v' w', OwnR f k w' e v' (L ++ [x]) → Mod (own v) w w' → Next w.heap.size v v' → K (a.put o.dst v') w') : if Region.wanted o (yielded ops a.tmps) = true then Oper.wp P o a (w.alloc (.cells cs e)) K Q else E := by
  have hw : Region.wanted o (yielded ops a.tmps) = true := by simp [Region.wanted, hgd]
  rw [if_pos hw]
  obtain ⟨v', w', hrun, h2, h3, h4⟩ := run_appR (P := P) hT o.type hf hown hcs h1 hn
  unfold Oper.wp execOp
  simp only [ho, resolve, invoke, builtin, Sem.run_bind, Sem.run_pure, Result.andThen_ok, List.map_toArray, List.map_cons, List.map_nil, hs, hy, hrun]
  simp only [Oper.upon, hd]
  have := h v' w' h2 h3 h4
  rw [hd] at this
  exact this
/-- make([]T, 0, n). -/
theorem wp_makeR0 (hT : SliceTyK P t e z k bytes) (f : α → List Value) (n : Nat) (hgd : o.guard = none) (l c : Operand) (ho : o.op = Op.makeSlice t l c) {kl kc : IntKind}
    (hl : a.eval l = .int kl 0) (hc : a.eval c = .int kc (n : Int)) (hn : bytes * n ≤ 281474976710656)
    (h : ∀ w', OwnR f k w' e (.slice (some ⟨w.heap.size, 0, none⟩) 0 n) [] → Ext w w' → w.heap.size < w'.heap.size → wpList P ops Q rest (a.put o.dst (.slice (some ⟨w.heap.size, 0, none⟩) 0 n)) w') : wpList P ops Q (o :: rest) a w := by
  obtain ⟨i, hi, hz0, hz1, hz2⟩ := info_parts hT.hi
  have hb : 1 * n ≤ bytes * n := Nat.mul_le_mul_right _ hT.hb
  exact wpList_make_own w hgd l c t ho 0 e i z k hT.ht hi hz0 hz1 kl kc n n hl hc rfl (by rw [hz2]; exact hn) (by simp only [maxLen]; omega) (Nat.zero_le _) fun w' h1 h2 =>
    h w' h1 (Mod.of_grown h2 fun k hk => by cases hk) ((World.ownsRow.lt h1 _ rfl).2)
end
theorem avc_ok (a : List UInt8 × List UInt8) : ∀ u ∈ avc a, u.oneCell' = true := by
  intro u hu
  simp only [avc, List.mem_cons, List.not_mem_nil, or_false] at hu
  rcases hu with rfl | rfl <;> rfl
end Go.Proofs.YtoockogceobfgaaGreat
namespace Go.Proofs.YtoockogceobfgaaGreat
open Go.RowKit

theorem tyB : SliceTy Tryz.prog 22 5 (.int .u8 0) 1 := ⟨Tryz.underlying22, by kernel_rfl, rfl, Nat.le_refl _⟩
end Go.Proofs.YtoockogceobfgaaGreat
namespace Go.Proofs.YtoockogceobfgaaGreat
open Go.RowKit

theorem take_next {α : Type} {xs ys : List α} {k : Nat} (hx : k < xs.length) (hy : k < ys.length) (h : xs.take k = ys.take k) (he : xs[k] = ys[k]) : xs.take (k + 1) = ys.take (k + 1) := by
  rw [List.take_succ_eq_append_getElem hx, List.take_succ_eq_append_getElem hy, h, he]
theorem byte_bne (a b : UInt8) : ((a.toNat : Int) != (b.toNat : Int)) = decide (a ≠ b) := by
  rw [Bool.eq_iff_iff]; simp only [bne_iff_ne, ne_eq, decide_eq_true_eq, ← UInt8.toNat_inj]; omega
/-- How much rows weigh. -/
def weight (L : List (List UInt8)) : Nat := (L.map fun p => p.length + 3).sum
theorem weight_snoc (L : List (List UInt8)) (k : Nat) (h : k < L.length) : weight (L.take (k + 1)) = weight (L.take k) + (L[k].length + 3) := by
  unfold weight
  rw [List.take_succ_eq_append_getElem h, List.map_append, List.sum_append]
  simp
theorem weight_take (L : List (List UInt8)) (k : Nat) : weight (L.take k) ≤ weight L := by
  have e : weight L = weight (L.take k) + weight (L.drop k) := by
    unfold weight
    rw [← List.sum_append, ← List.map_append, List.take_append_drop]
  omega
end Go.Proofs.YtoockogceobfgaaGreat
namespace Go.Proofs.YtoockogceobfgaaGreat
open Go.RowKit
set_option maxRecDepth 100000

theorem weight_flat (L : List (List UInt8)) : L.flatten.length ≤ weight L := by
  unfold weight
  induction L with
  | nil => simp
  | cons a L ih => simp only [List.flatten_cons, List.length_append, List.map_cons, List.sum_cons]; omega
end Go.Proofs.YtoockogceobfgaaGreat
namespace Go.Proofs.YtoockogceobfgaaGreat
open Go.RowKit
set_option maxRecDepth 100000

/-- Rows with the values that hold them named. -/
theorem Rw.vals {w : World} {S : Nat → Prop} {v : Value} {L : List (List UInt8)} (h : Rw w S v L) : ∃ vs : List Value, vs.length = L.length ∧ Sl w S v vs ∧ (∀ (k : Nat) (x : Value) (l : List UInt8), vs[k]? = some x → L[k]? = some l → Bs w S x l) ∧ ∀ u ∈ vs, u.oneCell' = true := by
  obtain ⟨vs, h1, h2, h3⟩ := h
  refine ⟨vs, h1, h2, h3, fun u hu => ?_⟩
  obtain ⟨k, hk, rfl⟩ := List.mem_iff_getElem.1 hu
  obtain ⟨A, c, he, _⟩ := h3 k vs[k] (L[k]'(by omega)) (by simp [hk]) (by simp [h1 ▸ hk])
  rw [he]; rfl
end Go.Proofs.YtoockogceobfgaaGreat
namespace Go.Proofs.YtoockogceobfgaaGreat
open Go.RowKit
set_option maxRecDepth 100000

theorem len_le_weight (L : List (List UInt8)) (k : Nat) (h : k < L.length) : L[k].length ≤ weight L := by
  have h1 := weight_snoc L k h
  have h2 := weight_take L (k + 1)
  omega
theorem roomy_begin {w : World} {A : Option Addr} {c : Nat} {l : List UInt8} (h : Own w 5 (.slice A (l.length + 1) c) ((l ++ [171]).map bv)) : Bs w (own (.slice A (l.length + 1) c)) (.slice A l.length c) l := by
  have h1 : Bs w (own (.slice A (l.length + 1) c)) (.slice A (l ++ [171]).length c) (l ++ [171]) := by
    have e : (l ++ [(171 : UInt8)]).length = l.length + 1 := by simp
    rw [e]; exact h.sl
  have := Bs.begin h1 (m := l.length) (by simp)
  rwa [List.take_append_of_le_length (Nat.le_refl _), List.take_of_length_le (Nat.le_refl _)] at this
end Go.Proofs.YtoockogceobfgaaGreat
namespace Go.Proofs.YtoockogceobfgaaGreat
open Go.RowKit
set_option maxRecDepth 100000

/-- Rows of unlike elements are not one block's. -/
theorem own_ne {w : World} {e e' : TypeId} {v v' : Value} {xs ys : List Value} (h : Own w e v xs) (h' : Own w e' v' ys) (hne : e ≠ e') {k : Nat} (hk : own v k) (hk' : own v' k) : False := by
  rcases h'.2 with ⟨rfl, _⟩ | ⟨g, cap, cur, rfl, _, hh, _⟩
  · cases hk'
  · have : g = k := Option.some.inj hk'
    subst this
    exact h.ne_blk (t := e') hh hne hk
end Go.Proofs.YtoockogceobfgaaGreat
namespace Go.Proofs.YtoockogceobfgaaGreat
open Go.RowKit
set_option maxRecDepth 100000

theorem sv_get (l : List UInt8) (k : Nat) (_h : k < l.length) (h' : k < (⟨l.toArray⟩ : ByteArray).size) : (⟨l.toArray⟩ : ByteArray)[k]'h' = l[k] := by
  show l.toArray[k] = l[k]
  simp
theorem sv_size (l : List UInt8) : (⟨l.toArray⟩ : ByteArray).size = l.length := by
  show l.toArray.size = l.length
  simp
theorem sv_list (l : List UInt8) : (⟨l.toArray⟩ : ByteArray).toList = l := by
  simp
theorem bool_eq {p : Prop} [Decidable p] {b : Bool} (h : b = true ↔ p) : b = decide p := by
  rw [Bool.eq_iff_iff, decide_eq_true_eq]; exact h

theorem ret_bool {b : Bool} {p : Prop} [Decidable p] {w w' : World} (h : b = true ↔ p) (hw : w' = w) : Ending.returned (.bool b) = .returned (.bool (decide p)) ∧ w' = w := ⟨by rw [bool_eq h], hw⟩

def letN (p : Nat) : Prop := (97 ≤ p ∧ p ≤ 122) ∨ (65 ≤ p ∧ p ≤ 90)
instance (p : Nat) : Decidable (letN p) := inferInstanceAs (Decidable (_ ∨ _))
def typN (p : Nat) : Prop := letN p ∨ (48 ≤ p ∧ p ≤ 57) ∨ p = 45
instance (p : Nat) : Decidable (typN p) := inferInstanceAs (Decidable (_ ∨ _))
/-- Is a text a type? -/
def isTyp (s : List UInt8) : Prop := 1 ≤ s.length ∧ s.length ≤ 32 ∧ letN (s.getD 0 0).toNat ∧ ∀ b ∈ s, typN b.toNat
instance (s : List UInt8) : Decidable (isTyp s) := inferInstanceAs (Decidable (_ ∧ _))

set_option maxHeartbeats 1000000 in
theorem letter_any {w : World} (p : Nat) :
    Calls Tryz.prog 146 #[.int .u8 (p : Int)] w fun e w' => e = .returned (.bool (decide (letN p))) ∧ w' = w := by
  go_enter Tryz.func146, Tryz.ntmps146
  go_wp2_with fail
  all_goals go_ret
  all_goals refine ret_bool ?_ rfl
  all_goals unfold letN
  all_goals simp
  all_goals omega
set_option maxHeartbeats 1000000 in
theorem rletter_any {w : World} (p : Nat) :
    Calls Tryz.prog 128 #[.int .u8 (p : Int)] w fun e w' => e = .returned (.bool (decide (letN p))) ∧ w' = w := by
  go_enter Tryz.func128, Tryz.ntmps128
  go_wp2_with fail
  all_goals go_ret
  all_goals refine ret_bool ?_ rfl
  all_goals unfold letN
  all_goals simp
  all_goals omega
set_option maxHeartbeats 1000000 in
theorem inType_any {w : World} (p : Nat) :
    Calls Tryz.prog 147 #[.int .u8 (p : Int)] w fun e w' => e = .returned (.bool (decide (typN p))) ∧ w' = w := by
  go_enter Tryz.func147, Tryz.ntmps147
  go_wp2_with fail
  refine (letter_any p).mono ?_
  rintro e w1 ⟨rfl, rfl⟩
  obtain ⟨q, hq⟩ : ∃ q, q = decide (letN p) := ⟨_, rfl⟩
  rw [← hq]
  replace hq := Lib.hid hq
  cases q
  all_goals go_wp2_with fail
  all_goals go_ret
  all_goals refine ret_bool ?_ rfl
  all_goals have hq' := hq.out
  all_goals unfold typN
  all_goals simp at hq' ⊢
  all_goals (try simp only [hq', true_or, false_or])
  all_goals (try omega)
end Go.Proofs.YtoockogceobfgaaGreat
namespace Go.Proofs.YtoockogceobfgaaGreat
open Go.RowKit
set_option maxRecDepth 100000

theorem ret_no {p : Prop} [Decidable p] {w w' : World} (h : ¬ p) (hw : w' = w) : Ending.returned (.bool false) = .returned (.bool (decide p)) ∧ w' = w := ⟨by rw [decide_eq_false h], hw⟩
theorem ret_yes {p : Prop} [Decidable p] {w w' : World} (h : p) (hw : w' = w) : Ending.returned (.bool true) = .returned (.bool (decide p)) ∧ w' = w := ⟨by rw [decide_eq_true h], hw⟩
theorem dtrue {p : Prop} [Decidable p] (h : p) : decide p = true := decide_eq_true h
theorem dfalse {p : Prop} [Decidable p] (h : ¬ p) : decide p = false := decide_eq_false h
theorem getD_at (s : List UInt8) {k : Nat} (h : k < s.length) : s.getD k 0 = s[k] := by rw [List.getD_eq_getElem?_getD, List.getElem?_eq_getElem h]; rfl

set_option maxHeartbeats 2000000 in
theorem type_any {w : World} (s : List UInt8) (hl : s.length ≤ 9223372036854775807) :
    Calls Tryz.prog 142 #[sv s] w fun e w' => e = .returned (.bool (decide (isTyp s))) ∧ w' = w := by
  have hsz := sv_size s
  by_cases h1 : s.length < 1
  · have hb : decide ((s.length : Int) < 1) = true := dtrue (by omega)
    go_enter Tryz.func142, Tryz.ntmps142
    go_wp2_with fail
    go_ret
    exact ret_no (fun h => by have := h.1; omega) rfl
  have hb1 : decide ((s.length : Int) < 1) = false := dfalse (by omega)
  by_cases h2 : 32 < s.length
  · have hb : decide ((32 : Int) < (s.length : Int)) = true := dtrue (by omega)
    go_enter Tryz.func142, Tryz.ntmps142
    go_wp2_with fail
    go_ret
    exact ret_no (fun h => by have := h.2.1; omega) rfl
  have hb2 : decide ((32 : Int) < (s.length : Int)) = false := dfalse (by omega)
  have h0 : 0 < s.length := by omega
  obtain ⟨b, hbk⟩ : ∃ b, b = s[0] := ⟨_, rfl⟩
  have hg : ∀ h', (⟨s.toArray⟩ : ByteArray)[0]'h' = b := fun h' => (sv_get s 0 h0 h').trans hbk.symm
  have hgd : s.getD 0 0 = b := by rw [getD_at s h0, hbk]
  replace hbk := Lib.hid hbk
  by_cases h3 : letN b.toNat
  · go_enter Tryz.func142, Tryz.ntmps142
    go_wp2_with fail
    refine (letter_any b.toNat).mono ?_
    rintro e w1 ⟨rfl, rfl⟩
    rw [decide_eq_true h3]
    go_wp2_with fail
    go_loop [20] (fun i => ∃ k : Nat, k ≤ s.length ∧ i = .int .i64 k ∧ ∀ (j : Nat) (hj : j < s.length), j < k → typN s[j].toNat) (fun i => s.length - (intOf i).toNat)
    case atStart => exact ⟨0, Nat.zero_le _, rfl, fun j _ h => by omega⟩
    case round =>
      obtain ⟨k, hk, rfl, hall⟩ := hrel
      replace hall := Lib.hid hall
      by_cases hlt : k < s.length
      · have hbl : decide ((k : Int) < (s.length : Int)) = true := dtrue (by omega)
        obtain ⟨c, hck⟩ : ∃ c, c = s[k] := ⟨_, rfl⟩
        have hg : ∀ h', (⟨s.toArray⟩ : ByteArray)[k]'h' = c := fun h' => (sv_get s k hlt h').trans hck.symm
        replace hck := Lib.hid hck
        go_wp2_with fail
        refine (inType_any c.toNat).mono ?_
        rintro e w1 ⟨rfl, rfl⟩
        by_cases h4 : typN c.toNat
        · rw [decide_eq_true h4]
          go_wp2_with fail
          refine ⟨⟨k + 1, by omega, by go_num, fun j hj hjk => ?_⟩, by simp [intOf] <;> omega⟩
          by_cases hj2 : j < k
          · exact hall.out j hj hj2
          · obtain rfl : j = k := by omega
            rw [← hck.out]; exact h4
        · rw [decide_eq_false h4]
          go_wp2_with fail
          go_ret
          exact ret_no (fun h => h4 (by rw [hck.out]; exact h.2.2.2 _ (List.getElem_mem _))) rfl
      · have hbl : decide ((k : Int) < (s.length : Int)) = false := dfalse (by omega)
        go_wp2_with fail
        go_ret
        exact ret_yes ⟨by omega, by omega, by rw [hgd]; exact h3, fun x hx => by
          obtain ⟨j, hj, rfl⟩ := List.mem_iff_getElem.1 hx
          exact hall.out j hj (by omega)⟩ rfl
  · go_enter Tryz.func142, Tryz.ntmps142
    go_wp2_with fail
    refine (letter_any b.toNat).mono ?_
    rintro e w1 ⟨rfl, rfl⟩
    rw [decide_eq_false h3]
    go_wp2_with fail
    go_ret
    exact ret_no (fun h => h3 (by rw [← hgd]; exact h.2.2.1)) rfl
end Go.Proofs.YtoockogceobfgaaGreat
namespace Go.Proofs.YtoockogceobfgaaGreat
open Go.RowKit
set_option maxRecDepth 100000

def low (b : UInt8) : UInt8 := if 65 ≤ b.toNat ∧ b.toNat ≤ 90 then b + 32 else b
def fstep (o : List UInt8) (b : UInt8) : List UInt8 := if low b = 32 ∧ (o = [] ∨ o.getLast? = some 32) then o else o ++ [low b]
def fcut (o : List UInt8) : List UInt8 := if o.getLast? = some 32 then o.dropLast else o
/-- A text in which case and blanks do not count. -/
def foldB (s : List UInt8) : List UInt8 := fcut (s.foldl fstep [])
theorem fold_snoc (s : List UInt8) {k : Nat} (h : k < s.length) : (s.take (k + 1)).foldl fstep [] = fstep ((s.take k).foldl fstep []) s[k] := by
  rw [List.take_succ_eq_append_getElem h, List.foldl_append, List.foldl_cons, List.foldl_nil]
theorem fstep_len (o : List UInt8) (b : UInt8) : (fstep o b).length ≤ o.length + 1 := by
  unfold fstep; split <;> simp
theorem ffold_len (s : List UInt8) : ∀ o, (s.foldl fstep o).length ≤ o.length + s.length := by
  induction s with
  | nil => intro o; simp
  | cons b s ih => intro o; rw [List.foldl_cons]; have := ih (fstep o b); have := fstep_len o b; simp only [List.length_cons]; omega
theorem fcut_len (o : List UInt8) : (fcut o).length ≤ o.length := by
  unfold fcut; split <;> simp
theorem foldB_len (s : List UInt8) : (foldB s).length ≤ s.length := by
  have := fcut_len (s.foldl fstep []); have := ffold_len s []; unfold foldB; simp at *; omega
theorem low_up {b : UInt8} (h : 65 ≤ b.toNat ∧ b.toNat ≤ 90) : (low b).toNat = b.toNat + 32 := by
  unfold low
  rw [if_pos h, UInt8.toNat_add]
  show (b.toNat + 32) % 256 = _
  omega
theorem low_no {b : UInt8} (h : ¬ (65 ≤ b.toNat ∧ b.toNat ≤ 90)) : low b = b := by
  unfold low
  rw [if_neg h]
theorem last_get (o : List UInt8) (h : 0 < o.length) : o.getLast? = some o[o.length - 1] := by
  rw [List.getLast?_eq_getElem?, List.getElem?_eq_getElem (by omega)]
theorem fstep_out {o : List UInt8} {b : UInt8} (h : (low b).toNat ≠ 32) : fstep o b = o ++ [low b] := by
  unfold fstep
  rw [if_neg (fun hh => h (by rw [hh.1]; rfl))]
theorem fstep_out2 {o : List UInt8} {b : UInt8} {m : Nat} (hm : o.length = m + 1) (h : o[m].toNat ≠ 32) : fstep o b = o ++ [low b] := by
  unfold fstep
  rw [if_neg]
  rintro ⟨_, rfl | h2⟩
  · simp at hm
  · rw [last_get o (by omega)] at h2
    have : o[o.length - 1] = o[m] := by congr 1; omega
    rw [this] at h2
    exact h (by rw [Option.some.inj h2]; rfl)
theorem fstep_skip0 {b : UInt8} (h : low b = 32) : fstep [] b = [] := by
  unfold fstep
  rw [if_pos ⟨h, .inl rfl⟩]
theorem fstep_skip {o : List UInt8} {b : UInt8} {m : Nat} (hm : o.length = m + 1) (hb : low b = 32) (h : o[m].toNat = 32) : fstep o b = o := by
  unfold fstep
  rw [if_pos]
  refine ⟨hb, .inr ?_⟩
  rw [last_get o (by omega)]
  have : o[o.length - 1] = o[m] := by congr 1; omega
  rw [this]
  congr 1
  exact UInt8.toNat_inj.1 h
theorem fcut_no {o : List UInt8} {m : Nat} (hm : o.length = m + 1) (h : o[m].toNat ≠ 32) : fcut o = o := by
  unfold fcut
  rw [if_neg]
  rw [last_get o (by omega)]
  have : o[o.length - 1] = o[m] := by congr 1; omega
  rw [this]
  intro h2
  exact h (by rw [Option.some.inj h2]; rfl)
theorem fcut_yes {o : List UInt8} {m : Nat} (hm : o.length = m + 1) (h : o[m].toNat = 32) : fcut o = o.take m := by
  unfold fcut
  rw [if_pos]
  · rw [List.dropLast_eq_take, hm]; rfl
  · rw [last_get o (by omega)]
    have : o[o.length - 1] = o[m] := by congr 1; omega
    rw [this]
    congr 1
    exact UInt8.toNat_inj.1 h

end Go.Proofs.YtoockogceobfgaaGreat
namespace Go.Proofs.YtoockogceobfgaaGreat
open Go.RowKit
set_option maxRecDepth 100000

/-- A value, folded. -/
def normV (s : List UInt8) : List UInt8 := if foldB s = [] ∧ s ≠ [] then [32] else foldB s
/-- A part, folded. -/
def normA (a : List UInt8 × List UInt8) : List UInt8 × List UInt8 := (foldB a.1, normV a.2)
theorem sv_empty (l : List UInt8) : (⟨l.toArray⟩ : ByteArray).toList.isEmpty = l.isEmpty := by simp

end Go.Proofs.YtoockogceobfgaaGreat
namespace Go.Proofs.YtoockogceobfgaaGreat
open Go.RowKit
set_option maxRecDepth 100000

abbrev Av : Type := List UInt8 × List UInt8
/-- No text is longer than memory. -/
def Fits (L : List Av) : Prop := (∀ a ∈ L, a.1.length ≤ 140737488351232 ∧ a.2.length ≤ 140737488351232) ∧ L.length * 32 ≤ 140737488351232
theorem Fits.at_ {L : List Av} (h : Fits L) {k : Nat} (hk : k < L.length) : L[k].1.length ≤ 140737488351232 ∧ L[k].2.length ≤ 140737488351232 := h.1 _ (List.getElem_mem _)
/-- A name, folded. -/
def norm (L : List Av) : List Av := L.map normA
theorem norm_snoc (L : List Av) {k : Nat} (h : k < L.length) : norm (L.take (k + 1)) = norm (L.take k) ++ [normA L[k]] := by
  unfold norm
  rw [List.take_succ_eq_append_getElem h, List.map_append]; rfl

end Go.Proofs.YtoockogceobfgaaGreat
namespace Go.Proofs.YtoockogceobfgaaGreat
open Go.RowKit
set_option maxRecDepth 100000

theorem strCells_sv (l : List UInt8) : Lib.strCells (⟨l.toArray⟩ : ByteArray) = l.map bv := rfl
theorem sv_size' (l : List UInt8) : (⟨l.toArray⟩ : ByteArray).size = l.length := by
  show l.toArray.size = l.length
  simp
section
variable {P : Program} {w : World} {t u e : TypeId} {ops : Array Oper} {rest : List Oper} {o : Oper} {a : Act} {Q : Exit → Act → World → Prop}
theorem run_appS (hT : SliceTy P t e (.int .u8 0) 1) (hu : P.underlying u = some .string) (ty : TypeId) {v : Value} {xs : List Value} (hown : Own w e v xs) (l : List UInt8) (hn : xs.length + l.length ≤ 140737488355328) :
    ∃ v' w', (Builtin.append_ #[t, u] ty #[v, sv l]).run P w = .ok v' w' ∧ Own w' e v' (xs ++ l.map bv) ∧ Mod (own v) w w' ∧ Next w.heap.size v v' := by
  obtain ⟨i, hi, hz0, hz1, hz2⟩ := info_parts hT.hi
  have h63 : xs.length + (⟨l.toArray⟩ : ByteArray).size ≤ maxLen := by rw [sv_size']; simp only [maxLen]; omega
  have hb : xs.length + (⟨l.toArray⟩ : ByteArray).size ≤ 140737488355328 := by rw [sv_size']; exact hn
  have hlen : (xs ++ l.map bv).length = xs.length + (⟨l.toArray⟩ : ByteArray).size := by rw [List.length_append, List.length_map, sv_size']
  rcases hown.2 with ⟨rfl, h0⟩ | ⟨g, cap, cur, rfl, hg, hh, hnc, hcm, hcs, htk⟩
  · have hx : xs = [] := List.eq_nil_of_length_eq_zero h0
    subst hx
    obtain ⟨v', w', hrun, h2, h3, _⟩ := Lib.run_append_own_string (P := P) w w.heap.size t u ty e i hT.ht hu hi hz0 hz1 hz2 (.slice none 0 0) 0 [] (World.ownsRow_nil w _ e 1) (⟨l.toArray⟩ : ByteArray) h63 hb (Nat.le_refl _)
    refine ⟨v', w', hrun, ?_, Mod.of_grown h3 fun k hk => hk, .inr fun k hk => (World.ownsRow.lt h2 k hk).1⟩
    unfold Own
    rw [hlen]
    refine ⟨h2.1, ?_⟩
    rcases h2.2 with h4 | ⟨g, cap, cur, r1, r2, r3⟩
    · exact .inl h4
    · exact .inr ⟨g, cap, cur, r1, Nat.zero_le _, r3⟩
  · obtain ⟨v', w', hrun, h2, h3, _⟩ := Lib.run_append_own_string (P := P) w 0 t u ty e i hT.ht hu hi hz0 hz1 hz2 _ xs.length xs hown (⟨l.toArray⟩ : ByteArray) h63 hb (Nat.zero_le _)
    refine ⟨v', w', hrun, by unfold Own; rw [hlen]; exact h2, Mod.of_grown h3 fun k hk => hk, ?_⟩
    by_cases hroom : xs.length + (⟨l.toArray⟩ : ByteArray).size ≤ cap
    · have := Lib.run_append_room_string (P := P) w t u ty e i hT.ht hu hi hz1 g xs.length cap cur hh (⟨l.toArray⟩ : ByteArray) hroom (by omega)
      rw [this] at hrun
      injection hrun with h1 _
      subst h1
      exact .inl rfl
    · have holds : ∀ j u, xs[j]? = some u → w.cell? ((⟨g, 0, none⟩ : Addr).add j) = some u := World.ownsRow.cells hown (g := g) rfl
      have hr := Lib.run_append_grow_string (P := P) w t u ty e i (.int .u8 0) hT.ht hu hi hz0 ⟨g, 0, none⟩ xs.length cap xs (by rw [hz1, Nat.mul_one]) holds (⟨l.toArray⟩ : ByteArray) (by omega) (by simp only [maxLen] at h63; omega) (by rw [hz2]; exact growslice_fits (by omega) (by omega))
      rw [hr] at hrun
      injection hrun with h1 _
      subst h1
      exact .inr fun k hk => by have : w.heap.size = k := Option.some.inj hk; omega
/-- append(v, s...). -/
theorem wp_appS (hT : SliceTy P t e (.int .u8 0) 1) (hu : P.underlying u = some .string) {v : Value} {xs : List UInt8} {l : List UInt8} (hown : Own w e v (xs.map bv)) (hn : xs.length + l.length ≤ 140737488355328)
    (hgd : o.guard = none) (s y : Operand) (ho : o.op = .call { callee := .builtin .append, args := #[s, y], argTypes := #[t, u] }) (hs : a.eval s = v) (hy : a.eval y = sv l)
    (h : ∀ v' w', Own w' e v' ((xs ++ l).map bv) → Mod (own v) w w' → Next w.heap.size v v' → wpList P ops Q rest (a.put o.dst v') w') : wpList P ops Q (o :: rest) a w := by
  refine wpList_plain hgd fun K hK => ?_
  obtain ⟨v', w', hrun, h2, h3, h4⟩ := run_appS (P := P) hT hu o.type hown l (by rw [List.length_map]; exact hn)
  unfold Oper.wp execOp
  simp only [ho, resolve, invoke, builtin, Sem.run_bind, Sem.run_pure, Result.andThen_ok, List.map_toArray, List.map_cons, List.map_nil, hs, hy, hrun]
  exact hK _ _ (h v' w' (by rw [List.map_append]; exact h2) h3 h4)
/-- append(v, b, c), two bytes. -/
theorem wp_app2 {z : Value} (hT : SliceTy P t e z 1) {v : Value} {l : List UInt8} {b c : UInt8} {x y : Int} (hown : Own w e v (l.map bv)) (hx : x = (b.toNat : Int)) (hy : y = (c.toNat : Int)) (hn : l.length + 2 ≤ 140737488355328)
    (hgd : o.guard = none) (s yy : Operand) (ho : o.op = .call { callee := .builtin .append, args := #[s, yy], argTypes := #[t, t] }) (hs : a.eval s = v) (hyy : a.eval yy = .slice (some ⟨w.heap.size, 0, none⟩) 2 2)
    (h : ∀ v' w', Own w' e v' ((l ++ [b, c]).map bv) → Mod (own v) w w' → Next w.heap.size v v' → wpList P ops Q rest (a.put o.dst v') w') : wpList P ops Q (o :: rest) a (w.alloc (.cells #[.int .u8 x, .int .u8 y] e)) := by
  subst hx
  subst hy
  refine wp_app hT (hown.alloc _) (Sl.lit w e [bv b, bv c] (by simp [maxLen])) (by intro u hu; simp only [List.mem_cons, List.not_mem_nil, or_false] at hu; rcases hu with rfl | rfl <;> rfl) hgd s yy ho hs hyy (by simpa using hn) fun v' w' k1 k2 k3 => ?_
  exact h v' w' (by rw [List.map_append]; exact k1) (mod_app k2) (k3.sooner (by simp))
end
end Go.Proofs.YtoockogceobfgaaGreat
namespace Go.Proofs.YtoockogceobfgaaGreat
open Go.RowKit Go.WideShapes Go.ChangeShapes Go.Deep
set_option maxRecDepth 100000

section
variable {H : Type} {enc : TypeId × Value → H} {P : Program} {W : World} {base : Nat} {spare : Nat → Bool} {held : Bool} {t e : TypeId} {v : Value} {d : DataW H} {p : List MemPlace}
/-- What a datum weighs lies within reach. -/
def Light (P : Program) (t : TypeId) (d : DataW H) : Prop := ∀ q ∈ d.weights P t, q ≤ 140737488351232
theorem light_of {ts : List TypeId} {ds : List (DataW H)} {j : Nat} (hsz : (DataW.weightsEach P ts ds).all (· ≤ reachBytes) = true) (htj : ts[j]? = some t) (hj : ds[j]? = some d) : Light P t d := fun q hq => by
  have := List.all_eq_true.1 hsz _ (DataW.weights_mem_each htj hj q hq)
  have := of_decide_eq_true this
  simpa [reachBytes] using this
theorem Light.elem {elems rest : List (DataW H)} {d : DataW H} (ht : P.underlying t = some (.slice e)) (h : Light P t (.slice elems rest)) (hd : d ∈ elems) : Light P e d := fun q hq => h q (by
  simp only [DataW.weights, ht]
  exact List.mem_cons_of_mem _ (List.mem_append_left _ (mem_weightsAll hd hq)))
theorem Light.len {elems rest : List (DataW H)} (ht : P.underlying t = some (.slice e)) (h : Light P t (.slice elems rest)) : elems.length * P.bytesOf e ≤ 140737488351232 := by
  have := h ((elems.length + rest.length) * P.bytesOf e) (by simp [DataW.weights, ht])
  exact Nat.le_trans (Nat.mul_le_mul_right _ (Nat.le_add_right _ _)) this
theorem Light.str {l : List UInt8} (h : Light P t (.lit (.string l) : DataW H)) : l.length ≤ 140737488351232 := h _ (by simp [DataW.weights])
theorem mem_weightsEach : ∀ {ts : List TypeId} {ds : List (DataW H)} {j : Nat} {t : TypeId} {d : DataW H} {q : Nat}, ts[j]? = some t → ds[j]? = some d → q ∈ d.weights P t → q ∈ DataW.weightsEach P ts ds := fun h1 h2 h3 => DataW.weights_mem_each h1 h2 _ h3
theorem Light.part {fs : Array Field} {parts : List (DataW H)} {j : Nat} {f : Field} {d : DataW H} (ht : P.underlying t = some (.struct fs)) (h : Light P t (.agg parts)) (hf : fs[j]? = some f) (hd : parts[j]? = some d) : Light P f.type d := fun q hq => h q (by
  simp only [DataW.weights, ht]
  exact mem_weightsEach (j := j) (by rw [List.getElem?_map, Array.getElem?_toList, hf]; rfl) hd hq)

/-- Slices of records. -/
theorem recs_in {α : Type} [Inhabited α] (f : α → List Value) {k bts : Nat} (hf : ∀ a, (f a).length = k) (R : α → Prop) (ht : P.underlying t = some (.slice e)) (ce : P.cellsOf e = k) (hby : P.bytesOf e = bts)
    (each : ∀ cs x n, DataW.trod enc P W base spare held n e cs = some x → Light P e x.1 → ∃ a, cs = f a ∧ R a) (hv : ∃ a len cap, v = .slice a len cap) (h : DataW.Trod enc P W base spare held t v d p) (hl : Light P t d) :
    ∃ L, Rc f k W (fun _ => True) v L ∧ (∀ a ∈ L, R a) ∧ L.length * bts ≤ 140737488351232 := by
  obtain ⟨a0, len0, cap0, rfl⟩ := hv
  obtain ⟨fuel, hfu⟩ := h
  rcases open_slice ht hfu with ⟨hcs, _⟩ | ⟨a, len, cap, m, n, D, Pl, hcs, _, hlc, hm, hmm, hx, hcell⟩
  · simp [Value.cells] at hcs
    obtain ⟨rfl, rfl, rfl⟩ := hcs
    exact ⟨[], Rc.nil _ _ _ _, (fun l hl => by cases hl), by simp⟩
  · simp [Value.cells] at hcs
    obtain ⟨rfl, rfl, rfl⟩ := hcs
    have hlm : len0 ≤ m := by rw [hmm]; split <;> omega
    injection hx with hd _
    subst hd
    have every : ∀ i, i < len0 → ∃ b, (W.cells? base (a.add (i * P.cellsOf e)) (P.cellsOf e) = some (f b)) ∧ R b := by
      intro i hi
      obtain ⟨cs', h1, h2⟩ := hcell i (by omega)
      obtain ⟨b, hb, hR⟩ := each cs' _ _ h2 (hl.elem ht (List.mem_map.2 ⟨i, List.mem_range.2 hi, rfl⟩))
      exact ⟨b, by rw [h1, hb], hR⟩
    obtain ⟨q, hq⟩ := choose_lt every
    refine ⟨(List.range len0).map q, ⟨some a, cap0, by simp, by simp; omega, hm, by simp, by rw [flat_len hf], fun j u hu => ⟨a, rfl, trivial, ?_⟩⟩, fun l hl => ?_, ?_⟩
    · have hk : j < len0 * k := by
        have := (List.getElem?_eq_some_iff.1 hu).1
        rw [flat_len hf] at this
        simpa using this
      have hk0 : 0 < k := by
        rcases Nat.eq_zero_or_pos k with h0 | h0
        · rw [h0] at hk; omega
        · exact h0
      obtain ⟨i, b, hb, rfl⟩ : ∃ i b, b < k ∧ j = i * k + b := ⟨j / k, j % k, Nat.mod_lt _ hk0, by rw [Nat.mul_comm]; exact (Nat.div_add_mod j k).symm⟩
      have hi : i < len0 := by
        rcases Nat.lt_or_ge i len0 with h | h
        · exact h
        · have := Nat.mul_le_mul_right k h; omega
      rw [flat_at hf _ i b (by simpa using hi) hb] at hu
      simp only [List.getElem_map, List.getElem_range] at hu
      obtain ⟨h1, _⟩ := hq i hi
      obtain ⟨_, _, h3⟩ := World.cells?_some h1
      have := h3 b (by rw [ce]; exact hb)
      rw [hu, add_of_add, ce] at this
      exact this
    · obtain ⟨i, hi, rfl⟩ := List.mem_map.1 hl
      exact (hq i (List.mem_range.1 hi)).2
    · have := hl.len ht
      rw [hby] at this
      simpa using this
/-- A record of texts, two of them. -/
theorem ava_each {f0 f1 : Field} (he : P.underlying e = some (.struct #[f0, f1])) (ce : P.cellsOf e = 2) (o0 : f0.offset = 0) (o1 : f1.offset = 1) (c0 : P.cellsOf f0.type = 1) (c1 : P.cellsOf f1.type = 1)
    (s0 : P.underlying f0.type = some .string) (s1 : P.underlying f1.type = some .string) (cs : List Value) (x : DataW H × List MemPlace) (n : Nat) (h : DataW.trod enc P W base spare held n e cs = some x) (hl : Light P e x.1) :
    ∃ a : List UInt8 × List UInt8, cs = avc a ∧ (a.1.length ≤ 140737488351232 ∧ a.2.length ≤ 140737488351232) := by
  obtain ⟨xs, m, _, rfl, hlen, hxl, hfi⟩ := DataW.trod_struct he h
  match xs, hxl, cs, hlen.trans ce with
  | [y0, y1], _, [v0, v1], _ =>
    have g0 := hfi 0 f0 rfl
    have g1 := hfi 1 f1 rfl
    simp [o0, o1, c0, c1] at g0 g1
    obtain ⟨x0, q0, z0, _⟩ := DataW.trod_string s0 g0
    obtain ⟨x1, q1, z1, _⟩ := DataW.trod_string s1 g1
    injection q0 with q0
    injection q1 with q1
    have l0 := Light.part (j := 0) he hl rfl rfl
    have l1 := Light.part (j := 1) he hl rfl rfl
    rw [z0] at l0
    rw [z1] at l1
    exact ⟨(x0.data.toList, x1.data.toList), by rw [q0, q1, sv_of x0, sv_of x1], l0.str, l1.str⟩
end
end Go.Proofs.YtoockogceobfgaaGreat
namespace Go.Proofs.YtoockogceobfgaaGreat
open Go.RowKit Go.WideShapes Go.ChangeShapes Go.Deep
set_option maxRecDepth 100000

structure Att where
  typ : List UInt8
  vals : List (List UInt8)
instance : Inhabited Att := ⟨⟨[], []⟩⟩
structure Ent where
  dn : List Av
  ats : List Att
def wV (vs : List (List UInt8)) : Nat := (vs.map fun v => 1 + v.length).sum
def wD (d : List Av) : Nat := (d.map fun a => 1 + a.1.length + a.2.length).sum
def wA (l : List Att) : Nat := (l.map fun a => 1 + a.typ.length + wV a.vals).sum
def wE (e : Ent) : Nat := wD e.dn + wA e.ats
theorem wV_ge : ∀ (vs : List (List UInt8)), vs.length ≤ wV vs
  | [] => Nat.le_refl _
  | v :: vs => by have := wV_ge vs; have e : wV (v :: vs) = 1 + v.length + wV vs := rfl; rw [e, List.length_cons]; omega
theorem wD_ge : ∀ (vs : List Av), vs.length ≤ wD vs
  | [] => Nat.le_refl _
  | v :: vs => by have := wD_ge vs; have e : wD (v :: vs) = 1 + v.1.length + v.2.length + wD vs := rfl; rw [e, List.length_cons]; omega
theorem wA_ge : ∀ (vs : List Att), vs.length ≤ wA vs
  | [] => Nat.le_refl _
  | v :: vs => by have := wA_ge vs; have e : wA (v :: vs) = 1 + v.typ.length + wV v.vals + wA vs := rfl; rw [e, List.length_cons]; omega
instance : Inhabited Att := ⟨⟨[], []⟩⟩

abbrev AtV : Type := List UInt8 × Value
abbrev atc (x : AtV) : List Value := [sv x.1, x.2]
theorem atc_len (x : AtV) : (atc x).length = 2 := rfl
theorem atc_ok {t : List UInt8} {A : Option Addr} {n c : Nat} : ∀ u ∈ atc (t, .slice A n c), u.oneCell' = true := by
  intro u hu
  simp only [atc, List.mem_cons, List.not_mem_nil, or_false] at hu
  rcases hu with rfl | rfl <;> rfl
theorem tySE : SliceTy Tryz.prog 23 9 (.string ⟨#[]⟩) 16 := ⟨Tryz.underlying23, by kernel_rfl, rfl, by omega⟩
abbrev AllE : Nat → Prop := fun _ => True
/-- A slice that reads as these attributes. -/
def Ats (w : World) (v : Value) (L : List Att) : Prop :=
  ∃ rs : List AtV, Rc atc 2 w AllE v rs ∧ rs.length = L.length ∧ ∀ (k : Nat) (r : AtV) (a : Att), rs[k]? = some r → L[k]? = some a → r.1 = a.typ ∧ Ss w AllE r.2 a.vals
theorem Ats.ext {w w' : World} {v : Value} {L : List Att} (h : Ats w v L) (hm : Ext w w') : Ats w' v L := by
  obtain ⟨rs, h1, h2, h3⟩ := h
  exact ⟨rs, h1.ext hm, h2, fun k r a hr ha => ⟨(h3 k r a hr ha).1, (h3 k r a hr ha).2.ext hm⟩⟩
theorem Ats.nil (w : World) : Ats w (.slice none 0 0) [] := ⟨[], (OwnR.nil atc 2 w 0).rc.mono (fun _ _ _ => trivial), rfl, fun k r a hr => by simp at hr⟩
theorem Ats.open_ {w : World} {v : Value} {L : List Att} (h : Ats w v L) : ∃ A c, v = .slice A L.length c ∧ ∀ (i : Nat) (hi : i < L.length), ∃ ad y, A = some ad ∧ w.cell? (ad.add (i * 2)) = some (sv L[i].typ) ∧ w.cell? ⟨(ad.add (i * 2)).block, (ad.add (i * 2)).off + 1, none⟩ = some y ∧ Ss w AllE y L[i].vals := by
  obtain ⟨rs, h1, h2, h3⟩ := h
  obtain ⟨A, c, rfl, _, _, _, h4⟩ := h1.open_ atc_len
  refine ⟨A, c, by rw [h2], fun i hi => ?_⟩
  obtain ⟨ad, e1, _, c0⟩ := h4 i 0 _ (by omega) (by omega) rfl
  obtain ⟨ad', e1', _, c1⟩ := h4 i 1 _ (by omega) (by omega) rfl
  rw [e1] at e1'
  injection e1' with e1'
  subst e1'
  obtain ⟨k1, k2⟩ := h3 i rs[i] L[i] (by simp [h2, hi]) (by simp [hi])
  rw [Nat.add_zero] at c0
  rw [add_next _ _ _ (by omega)] at c1
  exact ⟨ad, rs[i].2, e1, by rw [← k1]; exact c0, c1, k2⟩

theorem wD_mem : ∀ {L : List Av} {a : Av}, a ∈ L → a.1.length + a.2.length ≤ wD L
  | [], _, h => by cases h
  | b :: L, a, h => by
    have e : wD (b :: L) = 1 + b.1.length + b.2.length + wD L := rfl
    rcases List.mem_cons.1 h with h | h
    · subst h; omega
    · have := wD_mem h; omega
theorem wV_mem : ∀ {L : List (List UInt8)} {a : List UInt8}, a ∈ L → a.length + 1 ≤ wV L
  | [], _, h => by cases h
  | b :: L, a, h => by
    have e : wV (b :: L) = 1 + b.length + wV L := rfl
    rcases List.mem_cons.1 h with h | h
    · subst h; omega
    · have := wV_mem h; omega
theorem wA_mem : ∀ {L : List Att} {a : Att}, a ∈ L → 1 + a.typ.length + wV a.vals ≤ wA L
  | [], _, h => by cases h
  | b :: L, a, h => by
    have e : wA (b :: L) = 1 + b.typ.length + wV b.vals + wA L := rfl
    rcases List.mem_cons.1 h with h | h
    · subst h; omega
    · have := wA_mem h; omega

theorem ext_cell {w w' : World} (x : Ext w w') {p : Addr} {u : Value} (h : w.cell? p = some u) : w'.cell? p = some u := (x.cell (lt_of_cell h) (fun h => h)).trans h

/-- What lies within reach. -/
structure EFits (e : Ent) : Prop where
  dn : Fits e.dn
  len : e.ats.length * 40 ≤ 140737488351232
  els : ∀ a ∈ e.ats, a.typ.length ≤ 140737488351232 ∧ a.vals.length * 16 ≤ 140737488351232 ∧ ∀ v ∈ a.vals, v.length ≤ 140737488351232

theorem take_step {α : Type} {L M : List α} {k : Nat} (h1 : k < L.length) (h2 : k < M.length) (h : L.take k = M.take k) : L.take (k + 1) = M.take (k + 1) ↔ L[k] = M[k] := by
  rw [List.take_succ_eq_append_getElem h1, List.take_succ_eq_append_getElem h2, h]
  exact ⟨fun h => List.singleton_inj.1 (List.append_cancel_left h), fun h => by rw [h]⟩
theorem take_ne {α : Type} {L M : List α} {k : Nat} (h1 : k < L.length) (h2 : k < M.length) (h : L[k] ≠ M[k]) : L ≠ M := fun e => h (by subst e; rfl)
theorem take_all_eq {α : Type} {L M : List α} {k : Nat} (h1 : k = L.length) (h2 : L.length = M.length) (h : L.take k = M.take k) : L = M := by
  rwa [List.take_of_length_le (by omega), List.take_of_length_le (by omega)] at h
theorem Blk.two (w : World) (A B : Array Value) (s t : TypeId) : Blk ((w.alloc (.cells A s)).alloc (.cells B t)).drew w.heap.size s A ∧ Blk ((w.alloc (.cells A s)).alloc (.cells B t)).drew (w.heap.size + 1) t B ∧ Ext w ((w.alloc (.cells A s)).alloc (.cells B t)).drew := by
  refine ⟨(Blk.new w _ _).mod (F := fun _ => False) (((Mod.refl _ _).alloc _).drew) (fun h => h), ?_, (((Mod.refl _ w).alloc _).alloc _).drew⟩
  have h := Blk.new (w.alloc (.cells A s)) t B
  have hs : (w.alloc (.cells A s)).heap.size = w.heap.size + 1 := by simp
  rw [hs] at h
  exact h.mod (F := fun _ => False) ((Mod.refl _ _).drew) (fun h => h)

theorem w64_lo (x : Int) : -9223372036854775808 ≤ wrap64 x ∧ wrap64 x ≤ 9223372036854775807 := by unfold wrap64; omega
theorem w64_id {x : Int} (h : -9223372036854775808 ≤ x) (h' : x ≤ 9223372036854775807) : wrap64 x = x := by unfold wrap64; omega
section
variable {α : Type} (f : α → Nat)
def sumF (L : List α) : Nat := (L.map f).sum
theorem sumF_next (L : List α) {k : Nat} (h : k < L.length) : sumF f (L.take (k + 1)) = sumF f (L.take k) + f L[k] := by
  unfold sumF
  rw [List.take_succ_eq_append_getElem h, List.map_append, List.sum_append]
  simp
theorem sumF_take : ∀ (L : List α) (k : Nat), sumF f (L.take k) ≤ sumF f L
  | [], k => by simp
  | a :: L, 0 => Nat.zero_le _
  | a :: L, k + 1 => by
    have := sumF_take L k
    show f a + sumF f (L.take k) ≤ f a + sumF f L
    omega
theorem sumF_all (L : List α) {k : Nat} (h : L.length ≤ k) : sumF f (L.take k) = sumF f L := by rw [List.take_of_length_le h]
theorem sumF_z (L : List α) : sumF f (L.take 0) = 0 := rfl
end
abbrev aW (a : Av) : Nat := 1 + a.1.length + a.2.length
abbrev vW (v : List UInt8) : Nat := 1 + v.length
abbrev atW (a : Att) : Nat := 1 + a.typ.length + wV a.vals
theorem wD_sum (l : List Av) : wD l = sumF aW l := rfl
theorem wV_sum (l : List (List UInt8)) : wV l = sumF vW l := rfl
theorem wA_sum (l : List Att) : wA l = sumF atW l := rfl
abbrev EnV : Type := Value × Value
abbrev enc2 (x : EnV) : List Value := [x.1, x.2]
theorem enc2_len (x : EnV) : (enc2 x).length = 2 := rfl
/-- A slice that reads as these entries. -/
def Ents (w : World) (v : Value) (L : List Ent) : Prop := ∃ C : List EnV, Rc enc2 2 w AllE v C ∧ C.length = L.length ∧ ∀ (k : Nat) (x : EnV) (e : Ent), C[k]? = some x → L[k]? = some e → As w AllE x.1 e.dn ∧ Ats w x.2 e.ats
theorem Ents.ext {w w' : World} {v : Value} {L : List Ent} (h : Ents w v L) (x : Ext w w') : Ents w' v L := by
  obtain ⟨C, h1, h2, h3⟩ := h
  exact ⟨C, h1.ext x, h2, fun k y e hy he => ⟨(h3 k y e hy he).1.ext x, (h3 k y e hy he).2.ext x⟩⟩
theorem Ents.open_ {w : World} {v : Value} {L : List Ent} (h : Ents w v L) : ∃ A c, v = .slice A L.length c ∧ ∀ (i : Nat) (hi : i < L.length), ∃ ad y z, A = some ad ∧ w.cell? (ad.add (i * 2)) = some y ∧ w.cell? ⟨(ad.add (i * 2)).block, (ad.add (i * 2)).off + 1, none⟩ = some z ∧ As w AllE y L[i].dn ∧ Ats w z L[i].ats := by
  obtain ⟨C, h1, h2, h3⟩ := h
  obtain ⟨A, c, rfl, _, _, _, h4⟩ := h1.open_ enc2_len
  refine ⟨A, c, by rw [h2], fun i hi => ?_⟩
  obtain ⟨ad, e1, _, c0⟩ := h4 i 0 _ (by omega) (by omega) rfl
  obtain ⟨ad', e1', _, c1⟩ := h4 i 1 _ (by omega) (by omega) rfl
  rw [e1] at e1'
  injection e1' with e1'
  subst e1'
  obtain ⟨k1, k2⟩ := h3 i C[i] L[i] (by simp [h2, hi]) (by simp [hi])
  rw [Nat.add_zero] at c0
  rw [add_next _ _ _ (by omega)] at c1
  exact ⟨ad, C[i].1, C[i].2, e1, c0, c1, k1, k2⟩
/-- What great answers: where the sum lies within an int, whether it is above 4000. -/
def GreatR (T : Nat) (e : Ending) : Prop := ∃ r, e = .returned (.bool r) ∧ (T ≤ 4611686018427387904 → r = decide (4000 < T))
theorem GreatR.of {T : Nat} {r : Bool} (h : T ≤ 4611686018427387904 → r = decide (4000 < T)) : GreatR T (.returned (.bool r)) := ⟨r, rfl, h⟩
section
variable {H : Type} {enc : TypeId × Value → H} {P : Program} {W : World} {base : Nat} {spare : Nat → Bool} {held : Bool} {t e : TypeId} {v : Value} {d : DataW H} {p : List MemPlace}
theorem strs_sum : ∀ (l : List ByteArray), wV (l.map fun s => s.data.toList) ≤ Rows.uptoBulkAll (Go.ChangeShapes.strs l : List (DataW H))
  | [] => Nat.zero_le _
  | s :: l => by
    have h := strs_sum l
    have e : wV ((s :: l).map fun s => s.data.toList) = 1 + s.data.toList.length + wV (l.map fun s => s.data.toList) := rfl
    have e2 : (Go.ChangeShapes.strs (s :: l) : List (DataW H)) = .lit (.string s.data.toList) :: Go.ChangeShapes.strs l := rfl
    rw [e, e2]
    simp only [Rows.uptoBulkAll, Rows.uptoBulk]
    omega
theorem bulk_sum {α : Type} (wt : α → Nat) (q : Nat → α) (D : Nat → DataW H) : ∀ (l : List Nat), (∀ i ∈ l, wt (q i) ≤ Rows.uptoBulk (D i)) → ((l.map q).map wt).sum ≤ Rows.uptoBulkAll (l.map D)
  | [], _ => Nat.zero_le _
  | i :: l, h => by
    have h1 := bulk_sum wt q D l (fun j hj => h j (List.mem_cons_of_mem _ hj))
    have h2 := h i List.mem_cons_self
    simp only [List.map_cons, List.sum_cons, Rows.uptoBulkAll]
    omega
theorem strs_in_bulk {ts : List TypeId} {ds : List (DataW H)} {j : Nat} (ht : P.underlying t = some (.slice e)) (he : P.underlying e = some .string) (hc : P.cellsOf e = 1) (hby : P.bytesOf e = 16) (hv : ∃ a len cap, v = .slice a len cap) (h : DataW.Trod enc P W base spare held t v d p)
    (hsz : (DataW.weightsEach P ts ds).all (· ≤ reachBytes) = true) (htj : ts[j]? = some t) (hj : ds[j]? = some d) :
    ∃ L : List (List UInt8), Ss W (fun _ => True) v L ∧ (∀ l ∈ L, l.length ≤ 140737488351232) ∧ L.length * 16 ≤ 140737488351232 ∧ wV L ≤ Rows.uptoBulk d := by
  obtain ⟨a0, len0, cap0, rfl⟩ := hv
  obtain ⟨fuel, hf⟩ := h
  rcases Go.ChangeShapes.open_strings ht he hc hf with ⟨hcs, _⟩ | ⟨x, l, c, ss, hcs, _, hl, hm, hz, hx, hcell, hwz⟩
  · simp [Value.cells] at hcs
    obtain ⟨rfl, rfl, rfl⟩ := hcs
    exact ⟨[], Sl.nil _ _, (fun l hl => by cases hl), by simp, Nat.zero_le _⟩
  · simp [Value.cells] at hcs
    obtain ⟨rfl, rfl, rfl⟩ := hcs
    have hzl : len0 ≤ ss.length := by split at hz <;> omega
    injection hx with hd _
    subst hd
    have hs1 := sized_slice hsz htj hj ht
    rw [hby] at hs1
    simp only [Go.ChangeShapes.strs, List.length_map, List.length_take, List.length_drop, reachBytes] at hs1
    refine ⟨(ss.take len0).map fun s => s.data.toList, ⟨x |> some, cap0, by simp; omega, by simp; omega, hm, by simp, fun k u hu => ⟨x, rfl, trivial, ?_⟩⟩, fun l hl => ?_, by rw [List.length_map, List.length_take]; omega, by simp only [Rows.uptoBulk]; have := strs_sum (H := H) (ss.take len0); omega⟩
    · rw [List.getElem?_map, List.getElem?_map, List.getElem?_take] at hu
      split at hu
      · rename_i hk
        have hk2 : k < ss.length := by omega
        rw [List.getElem?_eq_getElem hk2] at hu
        simp only [Option.map_some, Option.some.injEq] at hu
        have h2 := hcell k hk2
        rw [List.getD_eq_getElem?_getD, List.getElem?_eq_getElem hk2, Option.getD_some] at h2
        rw [h2, ← hu, sv_of]
      · simp at hu
    · obtain ⟨s, hs, rfl⟩ := List.mem_map.1 hl
      have hmem : (DataW.lit (.string s.data.toList) : DataW H) ∈ (Go.ChangeShapes.strs (ss.take len0) : List (DataW H)) := List.mem_map.2 ⟨s, hs, rfl⟩
      have hw : s.data.toList.length ∈ DataW.weightsAll P e (Go.ChangeShapes.strs (ss.take len0) : List (DataW H)) := mem_weightsAll hmem (by simp [DataW.weights])
      have := List.all_eq_true.1 hsz _ (DataW.weights_mem_each htj hj s.data.toList.length (by simp only [DataW.weights, ht]; exact List.mem_cons_of_mem _ (List.mem_append_left _ hw)))
      exact of_decide_eq_true this
theorem recs_in_bulk {α : Type} [Inhabited α] (f : α → List Value) {k bts : Nat} (hf : ∀ a, (f a).length = k) (R : α → Prop) (wt : α → Nat) (ht : P.underlying t = some (.slice e)) (ce : P.cellsOf e = k) (hby : P.bytesOf e = bts)
    (each : ∀ cs x n, DataW.trod enc P W base spare held n e cs = some x → Light P e x.1 → ∃ a, cs = f a ∧ R a ∧ wt a ≤ Rows.uptoBulk x.1) (hv : ∃ a len cap, v = .slice a len cap) (h : DataW.Trod enc P W base spare held t v d p) (hl : Light P t d) :
    ∃ L, Rc f k W (fun _ => True) v L ∧ (∀ a ∈ L, R a) ∧ L.length * bts ≤ 140737488351232 ∧ (L.map wt).sum ≤ Rows.uptoBulk d := by
  obtain ⟨a0, len0, cap0, rfl⟩ := hv
  obtain ⟨fuel, hfu⟩ := h
  rcases open_slice ht hfu with ⟨hcs, _⟩ | ⟨a, len, cap, m, n, D, Pl, hcs, _, hlc, hm, hmm, hx, hcell⟩
  · simp [Value.cells] at hcs
    obtain ⟨rfl, rfl, rfl⟩ := hcs
    exact ⟨[], Rc.nil _ _ _ _, (fun l hl => by cases hl), by simp, Nat.zero_le _⟩
  · simp [Value.cells] at hcs
    obtain ⟨rfl, rfl, rfl⟩ := hcs
    have hlm : len0 ≤ m := by rw [hmm]; split <;> omega
    injection hx with hd _
    subst hd
    have every : ∀ i, i < len0 → ∃ b, (W.cells? base (a.add (i * P.cellsOf e)) (P.cellsOf e) = some (f b)) ∧ R b ∧ wt b ≤ Rows.uptoBulk (D i) := by
      intro i hi
      obtain ⟨cs', h1, h2⟩ := hcell i (by omega)
      obtain ⟨b, hb, hR, hB⟩ := each cs' _ _ h2 (hl.elem ht (List.mem_map.2 ⟨i, List.mem_range.2 hi, rfl⟩))
      exact ⟨b, by rw [h1, hb], hR, hB⟩
    obtain ⟨q, hq⟩ := choose_lt every
    refine ⟨(List.range len0).map q, ⟨some a, cap0, by simp, by simp; omega, hm, by simp, by rw [flat_len hf], fun j u hu => ⟨a, rfl, trivial, ?_⟩⟩, fun l hl => ?_, ?_, ?_⟩
    · have hk : j < len0 * k := by
        have := (List.getElem?_eq_some_iff.1 hu).1
        rw [flat_len hf] at this
        simpa using this
      have hk0 : 0 < k := by
        rcases Nat.eq_zero_or_pos k with h0 | h0
        · rw [h0] at hk; omega
        · exact h0
      obtain ⟨i, b, hb, rfl⟩ : ∃ i b, b < k ∧ j = i * k + b := ⟨j / k, j % k, Nat.mod_lt _ hk0, by rw [Nat.mul_comm]; exact (Nat.div_add_mod j k).symm⟩
      have hi : i < len0 := by
        rcases Nat.lt_or_ge i len0 with h | h
        · exact h
        · have := Nat.mul_le_mul_right k h; omega
      rw [flat_at hf _ i b (by simpa using hi) hb] at hu
      simp only [List.getElem_map, List.getElem_range] at hu
      obtain ⟨h1, _, _⟩ := hq i hi
      obtain ⟨_, _, h3⟩ := World.cells?_some h1
      have := h3 b (by rw [ce]; exact hb)
      rw [hu, add_of_add, ce] at this
      exact this
    · obtain ⟨i, hi, rfl⟩ := List.mem_map.1 hl
      exact (hq i (List.mem_range.1 hi)).2.1
    · have := hl.len ht
      rw [hby] at this
      simpa using this
    · simp only [Rows.uptoBulk]
      have := bulk_sum wt q D (List.range len0) (fun i hi => (hq i (List.mem_range.1 hi)).2.2)
      omega
theorem ava_each_bulk {f0 f1 : Field} (he : P.underlying e = some (.struct #[f0, f1])) (ce : P.cellsOf e = 2) (o0 : f0.offset = 0) (o1 : f1.offset = 1) (c0 : P.cellsOf f0.type = 1) (c1 : P.cellsOf f1.type = 1)
    (s0 : P.underlying f0.type = some .string) (s1 : P.underlying f1.type = some .string) (cs : List Value) (x : DataW H × List MemPlace) (n : Nat) (h : DataW.trod enc P W base spare held n e cs = some x) (hl : Light P e x.1) :
    ∃ a : List UInt8 × List UInt8, cs = avc a ∧ (a.1.length ≤ 140737488351232 ∧ a.2.length ≤ 140737488351232) ∧ aW a ≤ Rows.uptoBulk x.1 := by
  obtain ⟨xs, m, _, rfl, hlen, hxl, hfi⟩ := DataW.trod_struct he h
  match xs, hxl, cs, hlen.trans ce with
  | [y0, y1], _, [v0, v1], _ =>
    have g0 := hfi 0 f0 rfl
    have g1 := hfi 1 f1 rfl
    simp [o0, o1, c0, c1] at g0 g1
    obtain ⟨x0, q0, z0, _⟩ := DataW.trod_string s0 g0
    obtain ⟨x1, q1, z1, _⟩ := DataW.trod_string s1 g1
    injection q0 with q0
    injection q1 with q1
    have l0 := Light.part (j := 0) he hl rfl rfl
    have l1 := Light.part (j := 1) he hl rfl rfl
    rw [z0] at l0
    rw [z1] at l1
    exact ⟨(x0.data.toList, x1.data.toList), by rw [q0, q1, sv_of x0, sv_of x1], ⟨l0.str, l1.str⟩, by rw [z0, z1]; simp only [List.map_cons, List.map_nil, Rows.uptoBulk, Rows.uptoBulkAll, aW]; omega⟩
end
section
variable {H : Type} {enc : TypeId × Value → H} {W : World} {base : Nat} {spare : Nat → Bool} {held : Bool} {v : Value} {d : DataW H} {p : List MemPlace}
theorem light_all {P : Program} {t : TypeId} (h : Light P t d) : (DataW.weightsEach P [t] [d]).all (· ≤ reachBytes) = true := by
  rw [List.all_eq_true]
  intro q hq
  have : q ∈ d.weights P t := by simpa [DataW.weightsEach] using hq
  have := h q this
  exact decide_eq_true (by simpa [reachBytes] using this)
abbrev AtC : Type := Att × Value
abbrev atcc (x : AtC) : List Value := [sv x.1.typ, x.2]
theorem atcc_len (x : AtC) : (atcc x).length = 2 := rfl
instance : Inhabited AtC := ⟨(⟨[], []⟩, .nilFunc)⟩
instance : Inhabited AtC := ⟨(⟨[], []⟩, .nilFunc)⟩
theorem strs_bulk {fuel : Nat} {x : Value} (h : DataW.trod enc Tryz.prog W base spare held fuel 23 [x] = some (d, p)) (hl : Light Tryz.prog 23 d) :
    ∃ L, Ss W (fun _ => True) x L ∧ L.length * 16 ≤ 140737488351232 ∧ (∀ l ∈ L, l.length ≤ 140737488351232) ∧ wV L ≤ Rows.uptoBulk d := by
  have hsl := slice_val Tryz.underlying23 h
  have hx1 : x.cells.toList = [x] := by obtain ⟨a, b, c, e⟩ := hsl; rw [e]; rfl
  obtain ⟨L, h1, h2, h3, h4⟩ := strs_in_bulk (ts := [23]) (ds := [d]) (j := 0) (v := x) (d := d) (p := p) Tryz.underlying23 Tryz.underlying9 (by kernel_rfl) (by kernel_rfl) hsl ⟨fuel, by rw [hx1]; exact h⟩ (light_all hl) rfl rfl
  exact ⟨L, h1, h3, h2, h4⟩
/-- What a law's second form asks, of the arguments one by one. -/
theorem bulk_each {ds : List (DataW H)} (h : Rows.uptoSmall H ds = true) {j : Nat} {x : DataW H} (hx : ds[j]? = some x) : Rows.uptoBulk x ≤ 1048576 := by
  have h1 : Rows.uptoBulkAll ds ≤ 1048576 := of_decide_eq_true h
  have h2 : ∀ (l : List (DataW H)) (y : DataW H), y ∈ l → Rows.uptoBulk y ≤ Rows.uptoBulkAll l := by
    intro l
    induction l with
    | nil => intro y hy; cases hy
    | cons z l ih =>
      intro y hy
      simp only [Rows.uptoBulkAll]
      rcases List.mem_cons.1 hy with hy | hy
      · subst hy; omega
      · have := ih y hy; omega
  exact Nat.le_trans (h2 _ _ (List.mem_of_getElem? hx)) h1
end
end Go.Proofs.YtoockogceobfgaaGreat
