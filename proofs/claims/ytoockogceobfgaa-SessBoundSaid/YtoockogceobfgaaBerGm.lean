/- Strings: bytes as a text, over any program. -/
import Derived.Test.YtoockogceobfgaaSized
import Derived.Laws.BytesArg
import Derived.ChangeMaps5
import Derived.SliceStrings
import Derived.SizedLaws
import Derived.Test.YtoockogceobfgaaWords
import Derived.Deep.SlicePairs
import Derived.ChangeArms
import Derived.Laws.MakeOwn
import Derived.RegionTactic
import Derived.Test.YtoockogceobfgaaRows
import Derived.Deep.DeepCutAuto
import Derived.Deep.RegionHeld3
import Derived.BigQuiet
import Derived.Deep.QuietTactic
import Derived.Lib.SlBytesConst
namespace Go.Proofs.Ytoockogceobfgaa
open Go.RowKit

/-- A text as a value. -/
abbrev sv (l : List UInt8) : Value := .string ⟨l.toArray⟩

/-- string(b). -/
theorem run_conv {P : Program} {w : World} {S : Nat → Prop} {v : Value} {l : List UInt8} {src dst e : TypeId} (hs : P.underlying src = some (.slice e)) (he : P.underlying e = some (.int .u8)) (hd : P.underlying dst = some .string) (h : Bs w S v l) :
    (convert src dst v).run P w = .ok (sv l) w := by
  obtain ⟨A, c, rfl, h2, h3, h4, h5⟩ := h.open_
  rcases A with _ | ad
  · have : l = [] := List.eq_nil_of_length_eq_zero (by have := h4 rfl; omega)
    subst this
    exact run_convert_bytes_nil w src e hs he _ _ dst hd
  · have hl : (loadCells ad l.length).run P w = .ok ((l.map fun c => (c.toNat : Int)).map (Value.int .u8)).toArray w := by
      have := run_loadCells_list (P := P) w ad (l.map bv) (fun j v hj => by
        obtain ⟨ad', h1, _, h6⟩ := h5 j v hj
        injection h1 with h1
        subst h1
        exact h6)
      rw [List.length_map] at this
      rw [this, List.map_map]
      rfl
    rw [run_convert_bytes_string w src dst e _ _ c hs he hd, run_bytesToString w _ _ c _ hl, foldl_push_bytes]
    have h9 : (l.map fun c => (c.toNat : Int)).map (fun n => UInt8.ofNat n.toNat) = l := by
      rw [List.map_map]
      conv => rhs; rw [← List.map_id l]
      apply List.map_congr_left
      intro c _
      apply UInt8.toNat_inj.1
      show (UInt8.ofNat ((c.toNat : Int).toNat)).toNat = c.toNat
      rw [Int.toNat_natCast, UInt8.toNat_ofNat_of_lt' c.toNat_lt]
    rw [h9, show ByteArray.empty.data = #[] from rfl, Array.empty_append]
theorem run_convs {P : Program} {w : World} {S : Nat → Prop} {v : Value} {l : List UInt8} {src dst e : TypeId} (hs : P.underlying src = some (.slice e)) (he : P.underlying e = some (.int .u8)) (hd : P.underlying dst = some .string) (h : Bs w S v l) (n : Nat) :
    (convert src dst v).run P (w.drewN n) = .ok (sv l) (w.drewN n) := run_conv hs he hd (h.drewN n)
end Go.Proofs.Ytoockogceobfgaa
namespace Go.Proofs.Ytoockogceobfgaa
open Go.RowKit Go.WideShapes Go.ChangeShapes Go.Deep
set_option maxRecDepth 100000

/-- Rows of texts. -/
abbrev Ss (w : World) (S : Nat → Prop) (v : Value) (L : List (List UInt8)) : Prop := Sl w S v (L.map sv)

section
variable {H : Type} {enc : TypeId × Value → H} {P : Program} {W : World} {base : Nat} {spare : Nat → Bool} {held : Bool} {t e : TypeId} {v : Value} {d : DataW H} {p : List MemPlace}
theorem sv_of (s : ByteArray) : Value.string s = sv s.data.toList := by
  show Value.string s = .string ⟨s.data.toList.toArray⟩
  cases s
  simp
theorem str_in {r : Reach} {b0 : Nat} (ht : P.underlying t = some .string) (hv : Value.okWide P W r b0 t v) (h : DataW.Trod enc P W base spare held t v d p) :
    ∃ l : List UInt8, v = sv l ∧ l.length ≤ 9223372036854775807 := by
  obtain ⟨s, rfl, _, _, hs⟩ := Go.ChangeMaps.open_string ht hv h
  exact ⟨s.data.toList, sv_of s, by rw [Array.length_toList]; simpa [maxLen] using hs⟩
theorem strs_in (ht : P.underlying t = some (.slice e)) (he : P.underlying e = some .string) (hc : P.cellsOf e = 1) (hv : ∃ a len cap, v = .slice a len cap) (h : DataW.Trod enc P W base spare held t v d p) :
    ∃ L : List (List UInt8), Ss W (fun _ => True) v L ∧ ∀ l ∈ L, l.length ≤ 9223372036854775807 := by
  obtain ⟨a0, len0, cap0, rfl⟩ := hv
  obtain ⟨fuel, hf⟩ := h
  rcases Go.ChangeShapes.open_strings ht he hc hf with ⟨hcs, _⟩ | ⟨x, l, c, ss, hcs, _, hl, hm, hz, _, hcell, hwz⟩
  · simp [Value.cells] at hcs
    obtain ⟨rfl, rfl, rfl⟩ := hcs
    exact ⟨[], Sl.nil _ _, fun l hl => by cases hl⟩
  · simp [Value.cells] at hcs
    obtain ⟨rfl, rfl, rfl⟩ := hcs
    have hzl : len0 ≤ ss.length := by split at hz <;> omega
    refine ⟨(ss.take len0).map fun s => s.data.toList, ⟨x |> some, cap0, by simp; omega, by simp; omega, hm, by simp, fun k u hu => ⟨x, rfl, trivial, ?_⟩⟩, fun l hl => ?_⟩
    · rw [List.getElem?_map, List.getElem?_map, List.getElem?_take] at hu
      split at hu
      · rename_i hk
        have hk2 : k < ss.length := by omega
        rw [List.getElem?_eq_getElem hk2] at hu
        simp only [Option.map_some, Option.some.injEq] at hu
        have h2 := hcell k hk2
        rw [List.getD_eq_getElem?_getD, List.getElem?_eq_getElem hk2, Option.getD_some] at h2
        rw [h2, ← hu, sv_of]
      · simp at hu
    · obtain ⟨s, hs, rfl⟩ := List.mem_map.1 hl
      rw [Array.length_toList]
      simpa [maxLen] using hwz s (List.mem_of_mem_take hs)

theorem mem_weightsAll {e : TypeId} {n : Nat} {d : DataW H} : ∀ {ds : List (DataW H)}, d ∈ ds → n ∈ d.weights P e → n ∈ DataW.weightsAll P e ds
  | d0 :: ds, hd, hn => by
    simp only [DataW.weightsAll, List.mem_append]
    rcases List.mem_cons.1 hd with rfl | hd
    · exact .inl hn
    · exact .inr (mem_weightsAll hd hn)
theorem str_in_sized {ts : List TypeId} {ds : List (DataW H)} {j : Nat} {r : Reach} {b0 : Nat} (ht : P.underlying t = some .string) (hv : Value.okWide P W r b0 t v) (h : DataW.Trod enc P W base spare held t v d p)
    (hsz : (DataW.weightsEach P ts ds).all (· ≤ reachBytes) = true) (htj : ts[j]? = some t) (hj : ds[j]? = some d) :
    ∃ l : List UInt8, v = sv l ∧ l.length ≤ 140737488351232 := by
  obtain ⟨s, rfl, rfl, _, hs⟩ := Go.ChangeMaps.open_string ht hv h
  exact ⟨s.data.toList, sv_of s, sized_string hsz htj hj⟩
theorem strs_in_sized {ts : List TypeId} {ds : List (DataW H)} {j : Nat} (ht : P.underlying t = some (.slice e)) (he : P.underlying e = some .string) (hc : P.cellsOf e = 1) (hby : P.bytesOf e = 16) (hv : ∃ a len cap, v = .slice a len cap) (h : DataW.Trod enc P W base spare held t v d p)
    (hsz : (DataW.weightsEach P ts ds).all (· ≤ reachBytes) = true) (htj : ts[j]? = some t) (hj : ds[j]? = some d) :
    ∃ L : List (List UInt8), Ss W (fun _ => True) v L ∧ (∀ l ∈ L, l.length ≤ 140737488351232) ∧ L.length * 16 ≤ 140737488351232 := by
  obtain ⟨a0, len0, cap0, rfl⟩ := hv
  obtain ⟨fuel, hf⟩ := h
  rcases Go.ChangeShapes.open_strings ht he hc hf with ⟨hcs, _⟩ | ⟨x, l, c, ss, hcs, _, hl, hm, hz, hx, hcell, hwz⟩
  · simp [Value.cells] at hcs
    obtain ⟨rfl, rfl, rfl⟩ := hcs
    exact ⟨[], Sl.nil _ _, (fun l hl => by cases hl), by simp⟩
  · simp [Value.cells] at hcs
    obtain ⟨rfl, rfl, rfl⟩ := hcs
    have hzl : len0 ≤ ss.length := by split at hz <;> omega
    injection hx with hd _
    subst hd
    have hs1 := sized_slice hsz htj hj ht
    rw [hby] at hs1
    simp only [Go.ChangeShapes.strs, List.length_map, List.length_take, List.length_drop, reachBytes] at hs1
    refine ⟨(ss.take len0).map fun s => s.data.toList, ⟨x |> some, cap0, by simp; omega, by simp; omega, hm, by simp, fun k u hu => ⟨x, rfl, trivial, ?_⟩⟩, fun l hl => ?_, by rw [List.length_map, List.length_take]; omega⟩
    · rw [List.getElem?_map, List.getElem?_map, List.getElem?_take] at hu
      split at hu
      · rename_i hk
        have hk2 : k < ss.length := by omega
        rw [List.getElem?_eq_getElem hk2] at hu
        simp only [Option.map_some, Option.some.injEq] at hu
        have h2 := hcell k hk2
        rw [List.getD_eq_getElem?_getD, List.getElem?_eq_getElem hk2, Option.getD_some] at h2
        rw [h2, ← hu, sv_of]
      · simp at hu
    · obtain ⟨s, hs, rfl⟩ := List.mem_map.1 hl
      have hmem : (DataW.lit (.string s.data.toList) : DataW H) ∈ (Go.ChangeShapes.strs (ss.take len0) : List (DataW H)) := List.mem_map.2 ⟨s, hs, rfl⟩
      have hw : s.data.toList.length ∈ DataW.weightsAll P e (Go.ChangeShapes.strs (ss.take len0) : List (DataW H)) := mem_weightsAll hmem (by simp [DataW.weights])
      have := List.all_eq_true.1 hsz _ (DataW.weights_mem_each htj hj s.data.toList.length (by simp only [DataW.weights, ht]; exact List.mem_cons_of_mem _ (List.mem_append_left _ hw)))
      exact of_decide_eq_true this
end
end Go.Proofs.Ytoockogceobfgaa
namespace Go.Proofs.Ytoockogceobfgaa
open Go.RowKit

/-- v is nil, or begins at the head of a row of n e's of k cells each that reads as xs (flat) and goes on to v's capacity. -/
def OwnK (w : World) (e : TypeId) (k : Nat) (v : Value) (n : Nat) (xs : List Value) : Prop := w.ownsRow 0 e k v n xs
/-- v is a slice of n elements of k cells each that reads as xs (flat). -/
def SlK (w : World) (S : Nat → Prop) (k : Nat) (v : Value) (n : Nat) (xs : List Value) : Prop :=
  ∃ A c, v = .slice A n c ∧ n ≤ c ∧ c ≤ maxLen ∧ (A = none → c = 0) ∧ xs.length = n * k ∧ Cells w S A xs
/-- t is the type of slices of e's; an e is k cells, z at first, of so many bytes. -/
structure SliceTyK (P : Program) (t e : TypeId) (z : Value) (k bytes : Nat) : Prop where
  ht : P.underlying t = some (.slice e)
  hi : (P.info? e).map (fun i => (i.zero, i.size, i.bytes)) = some (some z, k, bytes)
  hz : z.cells.size = k
  hk : 0 < k
  hb : 1 ≤ bytes

section
variable {w w' : World} {e : TypeId} {k n : Nat} {v : Value} {xs : List Value} {F S T : Nat → Prop}
theorem OwnK.nil (w : World) (e : TypeId) (k : Nat) : OwnK w e k (.slice none 0 0) 0 [] := World.ownsRow_nil w 0 e k
theorem OwnK.lt (h : OwnK w e k v n xs) {b : Nat} (hb : own v b) : b < w.heap.size := (World.ownsRow.lt h b hb).2
theorem OwnK.mod (h : OwnK w e k v n xs) (hm : Mod F w w') (hn : ∀ b, own v b → ¬ F b) : OwnK w' e k v n xs := by
  refine ⟨h.1, ?_⟩
  rcases h.2 with h2 | ⟨g, cap, cur, hv, hg, hh, r⟩
  · exact .inl h2
  · exact .inr ⟨g, cap, cur, hv, hg, (hm.block g (lt_of_block hh) (hn g (by rw [hv]; rfl))).trans hh, r⟩
theorem OwnK.alloc (h : OwnK w e k v n xs) (o : Obj) : OwnK (w.alloc o) e k v n xs := h.mod ((Mod.refl (fun _ => False) w).alloc o) fun _ _ h => h
theorem OwnK.form (h : OwnK w e k v n xs) : (v = .slice none 0 0 ∧ n = 0) ∨ ∃ g cap, v = .slice (some ⟨g, 0, none⟩) n cap ∧ n ≤ cap ∧ cap ≤ maxLen ∧ g < w.heap.size := by
  rcases h.2 with h2 | ⟨g, cap, cur, hv, hg, hh, r1, r2, _⟩
  · exact .inl h2
  · exact .inr ⟨g, cap, hv, r1, r2, lt_of_block hh⟩
theorem OwnK.shape (h : OwnK w e k v n xs) : ∃ A c, v = .slice A n c := by
  rcases h.form with ⟨rfl, rfl⟩ | ⟨g, cap, rfl, _⟩
  · exact ⟨_, _, rfl⟩
  · exact ⟨_, _, rfl⟩
theorem OwnK.len (h : OwnK w e k v n xs) : xs.length = n * k := h.1
theorem OwnK.slk (h : OwnK w e k v n xs) : SlK w (own v) k v n xs := by
  have hl := h.len
  rcases h.form with ⟨rfl, rfl⟩ | ⟨g, cap, rfl, h1, h2, h3⟩
  · refine ⟨none, 0, rfl, Nat.le_refl _, Nat.zero_le _, fun _ => rfl, hl, fun j u hu => ?_⟩
    have : xs = [] := List.eq_nil_of_length_eq_zero (by rw [hl, Nat.zero_mul])
    rw [this] at hu
    simp at hu
  · exact ⟨_, _, rfl, h1, h2, by simp, hl, fun j u hu => ⟨_, rfl, rfl, World.ownsRow.cells h (g := g) rfl j u hu⟩⟩
/-- A literal of one element. -/
theorem SlK.one (w : World) (e : TypeId) (cs : List Value) (k : Nat) (hk : cs.length = k) : SlK (w.alloc (.cells cs.toArray e)) (fun b => b = w.heap.size) k (.slice (some ⟨w.heap.size, 0, none⟩) 1 1) 1 cs :=
  ⟨_, _, rfl, Nat.le_refl _, by simp [maxLen], by simp, by rw [hk, Nat.one_mul], fun j u hu => ⟨_, rfl, rfl, by
    rw [add_lit, cell_of_row _ w.heap.size j cs.toArray e (0, 0) (heap_alloc_new w _)]
    simpa using hu⟩⟩
theorem SlK.mod (h : SlK w S k v n xs) (hm : Mod F w w') (hn : ∀ b, b < w.heap.size → S b → ¬ F b) : SlK w' S k v n xs := by
  obtain ⟨A, c, h1, h2, h3, h4, h5, h6⟩ := h
  exact ⟨A, c, h1, h2, h3, h4, h5, h6.mod hm hn⟩
theorem SlK.mono (h : SlK w S k v n xs) (hS : ∀ b, b < w.heap.size → S b → T b) : SlK w T k v n xs := by
  obtain ⟨A, c, h1, h2, h3, h4, h5, h6⟩ := h
  exact ⟨A, c, h1, h2, h3, h4, h5, h6.mono hS⟩
/-- The cell j of element i. -/
theorem SlK.at_ {A : Option Addr} {c i j : Nat} {u : Value} (h : SlK w S k (.slice A n c) n xs) (hu : xs[i * k + j]? = some u) : ∃ ad, A = some ad ∧ S ad.block ∧ w.cell? (ad.add (i * k + j)) = some u := by
  obtain ⟨A', c', h1, _, _, _, _, h6⟩ := h
  injection h1 with h1
  subst h1
  exact h6 _ _ hu
end

section
variable {P : Program} {w : World} {t e : TypeId} {z : Value} {k bytes n m : Nat} {S : Nat → Prop}
theorem run_appk (hT : SliceTyK P t e z k bytes) (ty : TypeId) {v y : Value} {xs news : List Value} (hown : OwnK w e k v n xs) (hr : SlK w S k y m news) (h1 : ∀ u ∈ news, u.oneCell' = true)
    (hn : (n + m) * bytes ≤ 140737488355328) :
    ∃ v' w', (Builtin.append_ #[t, t] ty #[v, y]).run P w = .ok v' w' ∧ OwnK w' e k v' (n + m) (xs ++ news) ∧ Mod (own v) w w' ∧ Next w.heap.size v v' := by
  obtain ⟨i, hi, hz0, hz1, hz2⟩ := info_parts hT.hi
  obtain ⟨A, c, rfl, hc, hm, hA, hlen, hcell⟩ := hr
  have hpos := hT.hb
  have h63 : n + m ≤ maxLen := by
    have : (n + m) * 1 ≤ (n + m) * bytes := Nat.mul_le_mul_left _ hpos
    simp only [maxLen]; omega
  rcases A with _ | ad
  · have hc0 := hA rfl
    have hm0 : m = 0 := by omega
    subst hm0
    subst hc0
    have hn0 : news = [] := List.eq_nil_of_length_eq_zero (by rw [hlen, Nat.zero_mul])
    subst hn0
    refine ⟨v, w, ?_, by simpa using hown, Mod.refl _ _, Next.refl _ _⟩
    rcases hown.2 with ⟨rfl, h0⟩ | ⟨g, cap, cur, rfl, _, _, hnc, _⟩
    · simp [Builtin.append_, run_underlying hT.ht, sizeOf, typeInfo, hi, Builtin.lenOf, Builtin.firstCells]
    · simp [Builtin.append_, run_underlying hT.ht, sizeOf, typeInfo, hi, Builtin.lenOf, Builtin.firstCells, hnc, storeCells]
  · have hcells : ∀ j u, news[j]? = some u → w.cell? (ad.add j) = some u := by
      intro j u hu
      obtain ⟨ad', h, _, hc⟩ := hcell j u hu
      injection h with h
      subst h
      exact hc
    obtain ⟨v', w', hrun, h2, h3, _, h5⟩ := run_append_own_at (P := P) w 0 t ty e i z k bytes hT.ht hi hz0 hz1 hz2 hT.hz hT.hk v n xs hown ad m c news hlen hcells h1 h63 hn (Nat.zero_le _)
    refine ⟨v', w', hrun, h2, Mod.of_grown h3 fun k hk => hk, ?_⟩
    rcases h5 with h5 | h5
    · exact .inl h5
    · exact .inr fun k hk => by rw [h5] at hk; injection hk with hk; omega

variable {ops : Array Oper} {rest : List Oper} {o : Oper} {a : Act} {Q : Exit → Act → World → Prop}
theorem wp_appk (hT : SliceTyK P t e z k bytes) {v y : Value} {xs news : List Value} (hown : OwnK w e k v n xs) (hr : SlK w S k y m news) (h1 : ∀ u ∈ news, u.oneCell' = true)
    (hgd : o.guard = none) (s x : Operand) (ho : o.op = .call { callee := .builtin .append, args := #[s, x], argTypes := #[t, t] }) (hs : a.eval s = v) (hx : a.eval x = y)
    (hn : (n + m) * bytes ≤ 140737488355328)
    (h : ∀ v' w', OwnK w' e k v' (n + m) (xs ++ news) → Mod (own v) w w' → Next w.heap.size v v' → wpList P ops Q rest (a.put o.dst v') w') : wpList P ops Q (o :: rest) a w := by
  refine wpList_plain hgd fun K hK => ?_
  obtain ⟨v', w', hrun, h2, h3, h4⟩ := run_appk (P := P) hT o.type hown hr h1 hn
  unfold Oper.wp execOp
  simp only [ho, resolve, invoke, builtin, Sem.run_bind, Sem.run_pure, Result.andThen_ok, List.map_toArray, List.map_cons, List.map_nil, hs, hx, hrun]
  exact hK _ _ (h v' w' h2 h3 h4)
end
end Go.Proofs.Ytoockogceobfgaa
namespace Go.Proofs.Ytoockogceobfgaa
open Go.RowKit Go.WideShapes Go.ChangeShapes Go.Deep
set_option maxRecDepth 100000

theorem flat_at {α : Type} {f : α → List Value} {k : Nat} (hf : ∀ a, (f a).length = k) : ∀ (L : List α) (i j : Nat) (hi : i < L.length), j < k → (L.flatMap f)[i * k + j]? = (f L[i])[j]?
  | a :: L, 0, j, _, hj => by
    rw [List.flatMap_cons, Nat.zero_mul, Nat.zero_add, List.getElem?_append_left (by rw [hf]; exact hj)]
    rfl
  | a :: L, i + 1, j, hi, hj => by
    rw [List.flatMap_cons, List.getElem?_append_right (by rw [hf, Nat.succ_mul]; omega), hf, show (i + 1) * k + j - k = i * k + j by rw [Nat.succ_mul]; omega]
    exact flat_at hf L i j (by simpa using hi) hj
theorem flat_len {α : Type} {f : α → List Value} {k : Nat} (hf : ∀ a, (f a).length = k) : ∀ L : List α, (L.flatMap f).length = L.length * k
  | [] => by simp
  | a :: L => by rw [List.flatMap_cons, List.length_append, hf, flat_len hf L, List.length_cons, Nat.succ_mul]; omega
theorem flat_take {α : Type} {f : α → List Value} {k : Nat} (hf : ∀ a, (f a).length = k) : ∀ (L : List α) (n : Nat), (L.flatMap f).take (n * k) = (L.take n).flatMap f
  | [], n => by simp
  | a :: L, 0 => by simp
  | a :: L, n + 1 => by
    rw [List.flatMap_cons, List.take_succ_cons, List.flatMap_cons, Nat.succ_mul, Nat.add_comm, ← flat_take hf L n, ← hf a, List.take_length_add_append]
theorem flat_drop {α : Type} {f : α → List Value} {k : Nat} (hf : ∀ a, (f a).length = k) : ∀ (L : List α) (n : Nat), (L.flatMap f).drop (n * k) = (L.drop n).flatMap f
  | [], n => by simp
  | a :: L, 0 => by simp
  | a :: L, n + 1 => by
    rw [List.flatMap_cons, List.drop_succ_cons, Nat.succ_mul, Nat.add_comm, ← flat_drop hf L n, ← hf a, List.drop_length_add_append]

/-- v is a slice of records: a record is the k cells f a. -/
def Rc {α : Type} (f : α → List Value) (k : Nat) (w : World) (S : Nat → Prop) (v : Value) (L : List α) : Prop := SlK w S k v L.length (L.flatMap f)
/-- The records lie at A, in blocks of S. -/
def RcAt {α : Type} (f : α → List Value) (k : Nat) (w : World) (S : Nat → Prop) (A : Option Addr) (L : List α) : Prop :=
  ∀ i j u (hi : i < L.length), j < k → (f L[i])[j]? = some u → ∃ ad, A = some ad ∧ S ad.block ∧ w.cell? (ad.add (i * k + j)) = some u

section
variable {α : Type} {f : α → List Value} {k : Nat} {w w' : World} {S T F : Nat → Prop} {A : Option Addr} {v : Value} {L : List α} {c m : Nat}
theorem Rc.mod (h : Rc f k w S v L) (hm : Mod F w w') (hn : ∀ b, b < w.heap.size → S b → ¬ F b) : Rc f k w' S v L := SlK.mod h hm hn
theorem Rc.ext (h : Rc f k w S v L) (hm : Ext w w') : Rc f k w' S v L := SlK.mod h hm (fun _ _ _ h => h)
theorem Rc.mono (h : Rc f k w S v L) (hS : ∀ b, b < w.heap.size → S b → T b) : Rc f k w T v L := SlK.mono h hS
theorem Rc.drewN (h : Rc f k w S v L) (n : Nat) : Rc f k (w.drewN n) S v L := h
theorem Rc.nil (f : α → List Value) (k : Nat) (w : World) (S : Nat → Prop) : Rc f k w S (.slice none 0 0) [] := ⟨none, 0, rfl, Nat.le_refl _, Nat.zero_le _, fun _ => rfl, by simp, Cells.nil _ _ _⟩
theorem Rc.open_ (hf : ∀ a, (f a).length = k) (h : Rc f k w S v L) : ∃ A c, v = .slice A L.length c ∧ L.length ≤ c ∧ c ≤ 9223372036854775807 ∧ (A = none → c = 0) ∧ RcAt f k w S A L := by
  obtain ⟨A, c, h1, h2, h3, h4, h5, h6⟩ := h
  exact ⟨A, c, h1, h2, by simpa [maxLen] using h3, h4, fun i j u hi hj hu => h6 _ _ (by rw [flat_at hf L i j hi hj]; exact hu)⟩
theorem Rc.shape (h : Rc f k w S v L) : ∃ A c, v = .slice A L.length c := by
  obtain ⟨A, c, h1, _⟩ := h
  exact ⟨A, c, h1⟩
theorem RcAt.ext (h : RcAt f k w S A L) (hm : Ext w w') : RcAt f k w' S A L := fun i j u hi hj hu => by
  obtain ⟨ad, h1, h2, h3⟩ := h i j u hi hj hu
  exact ⟨ad, h1, h2, (hm.cell (lt_of_cell h3) (fun h => h)).trans h3⟩
theorem RcAt.mod (h : RcAt f k w S A L) (hm : Mod F w w') (hn : ∀ b, b < w.heap.size → S b → ¬ F b) : RcAt f k w' S A L := fun i j u hi hj hu => by
  obtain ⟨ad, h1, h2, h3⟩ := h i j u hi hj hu
  have hlt := lt_of_cell h3
  exact ⟨ad, h1, h2, (hm.cell hlt (by rw [block_of_add] at hlt ⊢; exact hn _ hlt h2)).trans h3⟩
/-- v[:m]. -/
theorem Rc.begin (hf : ∀ a, (f a).length = k) (h : Rc f k w S (.slice A L.length c) L) (hm : m ≤ L.length) : Rc f k w S (.slice A m c) (L.take m) := by
  obtain ⟨A', c', h1, h2, h3, h4, h5, h6⟩ := h
  injection h1 with e1 _ e3
  subst e1; subst e3
  exact ⟨A, c, by simp [Nat.min_eq_left hm], by simp; omega, h3, h4, by rw [flat_len hf], by rw [← flat_take hf]; exact h6.take _⟩
/-- v[m:], of a slice that goes on behind m. -/
theorem Rc.rest (hf : ∀ a, (f a).length = k) (h : Rc f k w S (.slice A L.length c) L) (hm : m ≤ L.length) : Rc f k w S (.slice (A.map (fun x => x.add (m * k))) (L.length - m) (c - m)) (L.drop m) := by
  obtain ⟨A', c', h1, h2, h3, h4, h5, h6⟩ := h
  injection h1 with e1 _ e3
  subst e1; subst e3
  refine ⟨A.map (fun x => x.add (m * k)), c - m, by simp, by simp; omega, by omega, fun he => ?_, by rw [flat_len hf], by rw [← flat_drop hf]; exact h6.drop _⟩
  have := h4 (by cases A <;> simp_all); omega
/-- v[c:], at the slice's room. -/
theorem Rc.rest0 (h : Rc f k w S (.slice A L.length c) L) (hm : m ≤ L.length) (hc : c = m) : Rc f k w S (.slice A (L.length - m) 0) (L.drop m) := by
  obtain ⟨A', c', h1, h2, h3, h4, h5, h6⟩ := h
  injection h1 with e1 _ e3
  subst e1; subst e3
  have e : L.drop m = [] := List.drop_of_length_le (by omega)
  rw [e]
  exact ⟨A, 0, by simp; omega, by simp, by simp, fun _ => rfl, by simp, by simpa using Cells.nil _ _ _⟩
end

/-- A record of two texts. -/
abbrev avc (a : List UInt8 × List UInt8) : List Value := [sv a.1, sv a.2]
theorem avc_len (a : List UInt8 × List UInt8) : (avc a).length = 2 := rfl
abbrev As (w : World) (S : Nat → Prop) (v : Value) (L : List (List UInt8 × List UInt8)) : Prop := Rc avc 2 w S v L
theorem add_next (a : Addr) (i j : Nat) (hj : 0 < j) : a.add (i + j) = ⟨(a.add i).block, (a.add i).off + j, none⟩ := by
  unfold Addr.add
  by_cases hi : i = 0
  · subst hi; simp; omega
  · rw [if_neg (by omega), if_neg hi]; simp [Nat.add_assoc]
theorem As.at_ {w : World} {S : Nat → Prop} {A : Option Addr} {L : List (List UInt8 × List UInt8)} (h : RcAt avc 2 w S A L) {i : Nat} (hi : i < L.length) :
    ∃ ad, A = some ad ∧ S ad.block ∧ w.cell? (ad.add (i * 2)) = some (sv L[i].1) ∧ w.cell? ⟨(ad.add (i * 2)).block, (ad.add (i * 2)).off + 1, none⟩ = some (sv L[i].2) := by
  obtain ⟨ad, h1, h2, h3⟩ := h i 0 _ hi (by omega) rfl
  obtain ⟨ad', h1', _, h4⟩ := h i 1 _ hi (by omega) rfl
  rw [h1] at h1'
  injection h1' with h1'
  subst h1'
  rw [add_next _ _ 1 (by omega)] at h4
  exact ⟨ad, h1, h2, h3, h4⟩

section
variable {H : Type} {enc : TypeId × Value → H} {P : Program} {W : World} {base : Nat} {spare : Nat → Bool} {held : Bool} {t e : TypeId} {v : Value} {d : DataW H} {p : List MemPlace}
theorem avas_in_sized {ts : List TypeId} {ds : List (DataW H)} {j : Nat} {f0 f1 : Field} (ht : P.underlying t = some (.slice e)) (he : P.underlying e = some (.struct #[f0, f1])) (ce : P.cellsOf e = 2) (o0 : f0.offset = 0) (o1 : f1.offset = 1) (c0 : P.cellsOf f0.type = 1) (c1 : P.cellsOf f1.type = 1)
    (s0 : P.underlying f0.type = some .string) (s1 : P.underlying f1.type = some .string) (hby : P.bytesOf e = 32) (hv : ∃ a len cap, v = .slice a len cap) (h : DataW.Trod enc P W base spare held t v d p)
    (hsz : (DataW.weightsEach P ts ds).all (· ≤ reachBytes) = true) (htj : ts[j]? = some t) (hj : ds[j]? = some d) :
    ∃ L, As W (fun _ => True) v L ∧ (∀ a ∈ L, a.1.length ≤ 140737488351232 ∧ a.2.length ≤ 140737488351232) ∧ L.length * 32 ≤ 140737488351232 := by
  obtain ⟨a0, len0, cap0, rfl⟩ := hv
  obtain ⟨fuel, hf⟩ := h
  rcases open_slice_pairs ht he ce o0 o1 c0 c1 hf with ⟨hcs, _⟩ | ⟨a, len, cap, m, n, V0, V1, D0, D1, P0, P1, hcs, _, hl, hm, hmm, hx, hcell⟩
  · simp [Value.cells] at hcs
    obtain ⟨rfl, rfl, rfl⟩ := hcs
    exact ⟨[], Rc.nil _ _ _ _, (fun l hl => by cases hl), by simp⟩
  · simp [Value.cells] at hcs
    obtain ⟨rfl, rfl, rfl⟩ := hcs
    have hlm : len0 ≤ m := by rw [hmm]; split <;> omega
    injection hx with hd _
    subst hd
    have each : ∀ i, ∃ q : List UInt8 × List UInt8, i < m → V0 i = sv q.1 ∧ V1 i = sv q.2 ∧ D0 i = .lit (.string q.1) ∧ D1 i = .lit (.string q.2) := by
      intro i
      by_cases hi : i < m
      · obtain ⟨_, _, g0, g1⟩ := hcell i hi
        obtain ⟨x0, y0, z0, _⟩ := DataW.trod_string s0 g0
        obtain ⟨x1, y1, z1, _⟩ := DataW.trod_string s1 g1
        injection y0 with y0; injection y1 with y1
        injection z0 with z0 _; injection z1 with z1 _
        exact ⟨(x0.data.toList, x1.data.toList), fun _ => ⟨y0.trans (sv_of x0), y1.trans (sv_of x1), z0, z1⟩⟩
      · exact ⟨([], []), fun h => absurd h hi⟩
    obtain ⟨q, hq⟩ := Classical.axiomOfChoice each
    have hs1 := sized_slice hsz htj hj ht
    rw [hby] at hs1
    simp only [List.length_map, List.length_range, reachBytes] at hs1
    refine ⟨(List.range len0).map q, ⟨some a, cap0, by simp, by simp; omega, hm, by simp, by rw [flat_len avc_len], fun k u hu => ⟨a, rfl, trivial, ?_⟩⟩, fun l hl => ?_, by rw [List.length_map, List.length_range]; omega⟩
    · have hk : k < len0 * 2 := by
        have := (List.getElem?_eq_some_iff.1 hu).1
        rw [flat_len avc_len] at this
        simpa using this
      obtain ⟨i, b, hb, rfl⟩ : ∃ i b, b < 2 ∧ k = i * 2 + b := ⟨k / 2, k % 2, by omega, by omega⟩
      have hi : i < len0 := by omega
      rw [flat_at avc_len _ i b (by simpa using hi) hb] at hu
      simp only [List.getElem_map, List.getElem_range] at hu
      obtain ⟨k0, k1, _, _⟩ := hcell i (by omega)
      obtain ⟨u0, u1, _, _⟩ := hq i (by omega)
      match b, hb with
      | 0, _ => simp at hu; rw [Nat.add_zero, k0, u0, hu]
      | 1, _ => simp at hu; rw [k1, u1, hu]
    · obtain ⟨i, hi, rfl⟩ := List.mem_map.1 hl
      have hi' := List.mem_range.1 hi
      obtain ⟨_, _, u0, u1⟩ := hq i (by omega)
      have hmem : (DataW.agg [D0 i, D1 i] : DataW H) ∈ (List.range len0).map fun i => (DataW.agg [D0 i, D1 i] : DataW H) := List.mem_map.2 ⟨i, hi, rfl⟩
      have hw : ∀ n, n ∈ (DataW.agg [D0 i, D1 i] : DataW H).weights P e → n ≤ reachBytes := fun n hn => by
        have := List.all_eq_true.1 hsz _ (DataW.weights_mem_each htj hj n (by simp only [DataW.weights, ht]; exact List.mem_cons_of_mem _ (List.mem_append_left _ (mem_weightsAll hmem hn))))
        exact of_decide_eq_true this
      have hh : (DataW.agg [D0 i, D1 i] : DataW H).weights P e = [(q i).1.length, (q i).2.length] := by
        simp [DataW.weights, he, DataW.weightsEach, u0, u1]
      exact ⟨hw _ (by rw [hh]; simp), hw _ (by rw [hh]; simp)⟩
end
end Go.Proofs.Ytoockogceobfgaa
namespace Go.Proofs.Ytoockogceobfgaa
open Go.RowKit
set_option maxRecDepth 100000

theorem byte_of {n : Nat} (h : n < 256) : Value.int .u8 (n : Int) = bv (UInt8.ofNat n) := by
  show _ = Value.int .u8 ((UInt8.ofNat n).toNat : Int)
  rw [u8_ofNat' _ h]
theorem Next.sooner {B B' : Nat} {v v' : Value} (h : Next B v v') (hB : B' ≤ B) : Next B' v v' := (Next.refl B' v).trans h hB
theorem one_ok (u : Value) (h : u.oneCell' = true) : ∀ x ∈ [u], x.oneCell' = true := by
  intro x hx
  rw [List.mem_singleton] at hx
  rw [hx]; exact h
theorem mod_app {a c : World} {o : Obj} {v : Value} (h : Mod (own v) (a.alloc o) c) : Mod (own v) a c := (Mod.alloc (Mod.refl _ a) o).then_ h (fun _ _ h => h)

section
variable {P : Program} {w : World} {t e : TypeId} {z : Value} {ops : Array Oper} {rest : List Oper} {o : Oper} {a : Act} {Q : Exit → Act → World → Prop}
/-- append(v, b), one byte. -/
theorem wp_app1 (hT : SliceTy P t e z 1) {v : Value} {l : List UInt8} {b : UInt8} {x : Int} (hown : Own w e v (l.map bv)) (hx : x = (b.toNat : Int)) (hn : l.length + 1 ≤ 140737488355328)
    (hgd : o.guard = none) (s y : Operand) (ho : o.op = .call { callee := .builtin .append, args := #[s, y], argTypes := #[t, t] }) (hs : a.eval s = v) (hy : a.eval y = .slice (some ⟨w.heap.size, 0, none⟩) 1 1)
    (h : ∀ v' w', Own w' e v' ((l ++ [b]).map bv) → Mod (own v) w w' → Next w.heap.size v v' → wpList P ops Q rest (a.put o.dst v') w') : wpList P ops Q (o :: rest) a (w.alloc (.cells #[.int .u8 x] e)) := by
  subst hx
  refine wp_app hT (hown.alloc _) (Sl.one w e (bv b)) (one_ok _ rfl) hgd s y ho hs hy (by simpa using hn) fun v' w' k1 k2 k3 => ?_
  exact h v' w' (by rw [List.map_append]; exact k1) (mod_app k2) (k3.sooner (by simp))
end
end Go.Proofs.Ytoockogceobfgaa
namespace Go.Proofs.Ytoockogceobfgaa
open Go.RowKit
set_option maxRecDepth 100000

/-- A row of records that the call owns. -/
def OwnR {α : Type} (f : α → List Value) (k : Nat) (w : World) (e : TypeId) (v : Value) (L : List α) : Prop := OwnK w e k v L.length (L.flatMap f)
section
variable {α : Type} {f : α → List Value} {k : Nat} {w w' : World} {e : TypeId} {v : Value} {L : List α} {F : Nat → Prop}
theorem OwnR.nil (f : α → List Value) (k : Nat) (w : World) (e : TypeId) : OwnR f k w e (.slice none 0 0) [] := OwnK.nil _ _ _
theorem OwnR.rc (h : OwnR f k w e v L) : Rc f k w (own v) v L := OwnK.slk h
theorem OwnR.mod (h : OwnR f k w e v L) (hm : Mod F w w') (hn : ∀ b, own v b → ¬ F b) : OwnR f k w' e v L := OwnK.mod h hm hn
theorem OwnR.ext (h : OwnR f k w e v L) (hm : Ext w w') : OwnR f k w' e v L := OwnK.mod h hm (fun _ _ h => h)
theorem OwnR.alloc (h : OwnR f k w e v L) (o : Obj) : OwnR f k (w.alloc o) e v L := OwnK.alloc h o
theorem OwnR.shape (h : OwnR f k w e v L) : ∃ A c, v = .slice A L.length c := OwnK.shape h
theorem OwnR.lt (h : OwnR f k w e v L) {b : Nat} (hb : own v b) : b < w.heap.size := OwnK.lt h hb
end

section
variable {P : Program} {w : World} {t e : TypeId} {z : Value} {k bytes : Nat} {ops : Array Oper} {rest : List Oper} {o : Oper} {a : Act} {Q : Exit → Act → World → Prop} {α : Type} {f : α → List Value}
theorem run_appR (hT : SliceTyK P t e z k bytes) (ty : TypeId) (hf : ∀ x, (f x).length = k) {v : Value} {L : List α} {x : α} {cs : Array Value} (hown : OwnR f k w e v L) (hcs : cs = (f x).toArray) (h1 : ∀ u ∈ f x, u.oneCell' = true) (hn : (L.length + 1) * bytes ≤ 140737488355328) :
    ∃ v' w', (Builtin.append_ #[t, t] ty #[v, .slice (some ⟨w.heap.size, 0, none⟩) 1 1]).run P (w.alloc (.cells cs e)) = .ok v' w' ∧ OwnR f k w' e v' (L ++ [x]) ∧ Mod (own v) w w' ∧ Next w.heap.size v v' := by
  subst hcs
  obtain ⟨v', w', hrun, h2, h3, h4⟩ := run_appk hT ty (OwnK.alloc hown (.cells (f x).toArray e)) (SlK.one w e (f x) k (hf x)) h1 hn
  refine ⟨v', w', hrun, ?_, mod_app h3, h4.sooner (by simp)⟩
  unfold OwnR
  rw [List.length_append, List.flatMap_append]
  simpa using h2
/-- append(v, x), one record. -/
theorem wp_appR (hT : SliceTyK P t e z k bytes) (hf : ∀ x, (f x).length = k) {v : Value} {L : List α} {x : α} {cs : Array Value} (hown : OwnR f k w e v L) (hcs : cs = (f x).toArray) (h1 : ∀ u ∈ f x, u.oneCell' = true) (hn : (L.length + 1) * bytes ≤ 140737488355328)
    (hgd : o.guard = none) (s y : Operand) (ho : o.op = .call { callee := .builtin .append, args := #[s, y], argTypes := #[t, t] }) (hs : a.eval s = v) (hy : a.eval y = .slice (some ⟨w.heap.size, 0, none⟩) 1 1)
    (h : ∀ v' w', OwnR f k w' e v' (L ++ [x]) → Mod (own v) w w' → Next w.heap.size v v' → wpList P ops Q rest (a.put o.dst v') w') : wpList P ops Q (o :: rest) a (w.alloc (.cells cs e)) := by
  refine wpList_plain hgd fun K hK => ?_
  obtain ⟨v', w', hrun, h2, h3, h4⟩ := run_appR (P := P) hT o.type hf hown hcs h1 hn
  unfold Oper.wp execOp
  simp only [ho, resolve, invoke, builtin, Sem.run_bind, Sem.run_pure, Result.andThen_ok, List.map_toArray, List.map_cons, List.map_nil, hs, hy, hrun]
  exact hK _ _ (h v' w' h2 h3 h4)
/-- The same at a step of a region that draws. -/
theorem step_appR {K : Act → World → Prop} {E : Prop} {d : Tmp} (hT : SliceTyK P t e z k bytes) (hf : ∀ x, (f x).length = k) {v : Value} {L : List α} {x : α} {cs : Array Value} (hown : OwnR f k w e v L) (hcs : cs = (f x).toArray) (h1 : ∀ u ∈ f x, u.oneCell' = true) (hn : (L.length + 1) * bytes ≤ 140737488355328)
    (hgd : o.guard = none) (hd : o.dst = some d) (s y : Operand) (ho : o.op = .call { callee := .builtin .append, args := #[s, y], argTypes := #[t, t] }) (hs : a.eval s = v) (hy : a.eval y = .slice (some ⟨w.heap.size, 0, none⟩) 1 1)
    (h : ∀ v' w', OwnR f k w' e v' (L ++ [x]) → Mod (own v) w w' → Next w.heap.size v v' → K (a.put o.dst v') w') : if Region.wanted o (yielded ops a.tmps) = true then Oper.wp P o a (w.alloc (.cells cs e)) K Q else E := by
  have hw : Region.wanted o (yielded ops a.tmps) = true := by simp [Region.wanted, hgd]
  rw [if_pos hw]
  obtain ⟨v', w', hrun, h2, h3, h4⟩ := run_appR (P := P) hT o.type hf hown hcs h1 hn
  unfold Oper.wp execOp
  simp only [ho, resolve, invoke, builtin, Sem.run_bind, Sem.run_pure, Result.andThen_ok, List.map_toArray, List.map_cons, List.map_nil, hs, hy, hrun]
  simp only [Oper.upon, hd]
  have := h v' w' h2 h3 h4
  rw [hd] at this
  exact this
/-- make([]T, 0, n). -/
theorem wp_makeR0 (hT : SliceTyK P t e z k bytes) (f : α → List Value) (n : Nat) (hgd : o.guard = none) (l c : Operand) (ho : o.op = Op.makeSlice t l c) {kl kc : IntKind}
    (hl : a.eval l = .int kl 0) (hc : a.eval c = .int kc (n : Int)) (hn : bytes * n ≤ 281474976710656)
    (h : ∀ w', OwnR f k w' e (.slice (some ⟨w.heap.size, 0, none⟩) 0 n) [] → Ext w w' → w.heap.size < w'.heap.size → wpList P ops Q rest (a.put o.dst (.slice (some ⟨w.heap.size, 0, none⟩) 0 n)) w') : wpList P ops Q (o :: rest) a w := by
  obtain ⟨i, hi, hz0, hz1, hz2⟩ := info_parts hT.hi
  have hb : 1 * n ≤ bytes * n := Nat.mul_le_mul_right _ hT.hb
  exact wpList_make_own w hgd l c t ho 0 e i z k hT.ht hi hz0 hz1 kl kc n n hl hc rfl (by rw [hz2]; exact hn) (by simp only [maxLen]; omega) (Nat.zero_le _) fun w' h1 h2 =>
    h w' h1 (Mod.of_grown h2 fun k hk => by cases hk) ((World.ownsRow.lt h1 _ rfl).2)
end
theorem avc_ok (a : List UInt8 × List UInt8) : ∀ u ∈ avc a, u.oneCell' = true := by
  intro u hu
  simp only [avc, List.mem_cons, List.not_mem_nil, or_false] at hu
  rcases hu with rfl | rfl <;> rfl
end Go.Proofs.Ytoockogceobfgaa
namespace Go.Proofs.Ytoockogceobfgaa
open Go.RowKit

theorem tyB : SliceTy Try.prog 26 5 (.int .u8 0) 1 := ⟨Try.underlying26, by kernel_rfl, rfl, Nat.le_refl _⟩
end Go.Proofs.Ytoockogceobfgaa
namespace Go.Proofs.Ytoockogceobfgaa
open Go.RowKit

theorem take_next {α : Type} {xs ys : List α} {k : Nat} (hx : k < xs.length) (hy : k < ys.length) (h : xs.take k = ys.take k) (he : xs[k] = ys[k]) : xs.take (k + 1) = ys.take (k + 1) := by
  rw [List.take_succ_eq_append_getElem hx, List.take_succ_eq_append_getElem hy, h, he]
theorem byte_bne (a b : UInt8) : ((a.toNat : Int) != (b.toNat : Int)) = decide (a ≠ b) := by
  rw [Bool.eq_iff_iff]; simp only [bne_iff_ne, ne_eq, decide_eq_true_eq, ← UInt8.toNat_inj]; omega
/-- How much rows weigh. -/
def weight (L : List (List UInt8)) : Nat := (L.map fun p => p.length + 3).sum
theorem weight_snoc (L : List (List UInt8)) (k : Nat) (h : k < L.length) : weight (L.take (k + 1)) = weight (L.take k) + (L[k].length + 3) := by
  unfold weight
  rw [List.take_succ_eq_append_getElem h, List.map_append, List.sum_append]
  simp
theorem weight_take (L : List (List UInt8)) (k : Nat) : weight (L.take k) ≤ weight L := by
  have e : weight L = weight (L.take k) + weight (L.drop k) := by
    unfold weight
    rw [← List.sum_append, ← List.map_append, List.take_append_drop]
  omega
end Go.Proofs.Ytoockogceobfgaa
namespace Go.Proofs.Ytoockogceobfgaa
open Go.RowKit
set_option maxRecDepth 100000

theorem weight_flat (L : List (List UInt8)) : L.flatten.length ≤ weight L := by
  unfold weight
  induction L with
  | nil => simp
  | cons a L ih => simp only [List.flatten_cons, List.length_append, List.map_cons, List.sum_cons]; omega
end Go.Proofs.Ytoockogceobfgaa
namespace Go.Proofs.Ytoockogceobfgaa
open Go.RowKit
set_option maxRecDepth 100000

/-- Rows with the values that hold them named. -/
theorem Rw.vals {w : World} {S : Nat → Prop} {v : Value} {L : List (List UInt8)} (h : Rw w S v L) : ∃ vs : List Value, vs.length = L.length ∧ Sl w S v vs ∧ (∀ (k : Nat) (x : Value) (l : List UInt8), vs[k]? = some x → L[k]? = some l → Bs w S x l) ∧ ∀ u ∈ vs, u.oneCell' = true := by
  obtain ⟨vs, h1, h2, h3⟩ := h
  refine ⟨vs, h1, h2, h3, fun u hu => ?_⟩
  obtain ⟨k, hk, rfl⟩ := List.mem_iff_getElem.1 hu
  obtain ⟨A, c, he, _⟩ := h3 k vs[k] (L[k]'(by omega)) (by simp [hk]) (by simp [h1 ▸ hk])
  rw [he]; rfl
end Go.Proofs.Ytoockogceobfgaa
namespace Go.Proofs.Ytoockogceobfgaa
open Go.RowKit
set_option maxRecDepth 100000

theorem len_le_weight (L : List (List UInt8)) (k : Nat) (h : k < L.length) : L[k].length ≤ weight L := by
  have h1 := weight_snoc L k h
  have h2 := weight_take L (k + 1)
  omega
theorem roomy_begin {w : World} {A : Option Addr} {c : Nat} {l : List UInt8} (h : Own w 5 (.slice A (l.length + 1) c) ((l ++ [171]).map bv)) : Bs w (own (.slice A (l.length + 1) c)) (.slice A l.length c) l := by
  have h1 : Bs w (own (.slice A (l.length + 1) c)) (.slice A (l ++ [171]).length c) (l ++ [171]) := by
    have e : (l ++ [(171 : UInt8)]).length = l.length + 1 := by simp
    rw [e]; exact h.sl
  have := Bs.begin h1 (m := l.length) (by simp)
  rwa [List.take_append_of_le_length (Nat.le_refl _), List.take_of_length_le (Nat.le_refl _)] at this
end Go.Proofs.Ytoockogceobfgaa
namespace Go.Proofs.Ytoockogceobfgaa
open Go.RowKit
set_option maxRecDepth 100000

/-- Rows of unlike elements are not one block's. -/
theorem own_ne {w : World} {e e' : TypeId} {v v' : Value} {xs ys : List Value} (h : Own w e v xs) (h' : Own w e' v' ys) (hne : e ≠ e') {k : Nat} (hk : own v k) (hk' : own v' k) : False := by
  rcases h'.2 with ⟨rfl, _⟩ | ⟨g, cap, cur, rfl, _, hh, _⟩
  · cases hk'
  · have : g = k := Option.some.inj hk'
    subst this
    exact h.ne_blk (t := e') hh hne hk
end Go.Proofs.Ytoockogceobfgaa
namespace Go.Proofs.Ytoockogceobfgaa
open Go.RowKit
set_option maxRecDepth 100000

/-- All rows, one behind the other. -/
theorem flat_snoc (L : List (List UInt8)) (k : Nat) (h : k < L.length) : (L.take (k + 1)).flatten = (L.take k).flatten ++ L[k] := by
  rw [List.take_succ_eq_append_getElem h, List.flatten_append]
  simp
theorem flatR_take (L : List (List UInt8)) (k : Nat) : (L.take k).flatten.length ≤ L.flatten.length := by
  have e : L.flatten = (L.take k).flatten ++ (L.drop k).flatten := by
    rw [← List.flatten_append, List.take_append_drop]
  rw [e, List.length_append]; omega
def flen (L : List (List UInt8)) (k : Nat) : Nat := (L.take k).flatten.length
theorem flen_snoc (L : List (List UInt8)) (k : Nat) (h : k < L.length) : flen L (k + 1) = flen L k + L[k].length := by
  unfold flen; rw [flat_snoc L k h, List.length_append]
theorem flen_le (L : List (List UInt8)) (k : Nat) : flen L k ≤ L.flatten.length := flatR_take L k
theorem flen_all (L : List (List UInt8)) (k : Nat) (h : L.length ≤ k) : flen L k = L.flatten.length := by unfold flen; rw [List.take_of_length_le h]
theorem tyR : SliceTy Try.prog 93 26 (.slice none 0 0) 24 := ⟨Try.underlying93, by kernel_rfl, rfl, by omega⟩
/-- Two lists of rows in one of the call's own. -/
theorem Rw.join {w w' : World} {S : Nat → Prop} {v : Value} {L M : List (List UInt8)} {vs us : List Value} (hown : Own w' 26 v (vs ++ us)) (hx : Ext w w') (h1 : vs.length = L.length) (h2 : us.length = M.length)
    (h3 : ∀ (k : Nat) (x : Value) (l : List UInt8), vs[k]? = some x → L[k]? = some l → Bs w S x l) (h4 : ∀ (k : Nat) (x : Value) (l : List UInt8), us[k]? = some x → M[k]? = some l → Bs w S x l) :
    Rw w' (fun k => S k ∨ own v k) v (L ++ M) := by
  refine ⟨vs ++ us, by simp [h1, h2], hown.sl.mono (fun _ _ h => .inr h), fun k x l hx' hl => ?_⟩
  by_cases hk : k < vs.length
  · rw [List.getElem?_append_left hk] at hx'
    rw [List.getElem?_append_left (by omega)] at hl
    exact ((h3 k x l hx' hl).ext hx).mono (fun _ _ h => .inl h)
  · rw [List.getElem?_append_right (by omega)] at hx'
    rw [List.getElem?_append_right (by omega)] at hl
    rw [h1] at hx'
    exact ((h4 _ x l hx' hl).ext hx).mono (fun _ _ h => .inl h)
end Go.Proofs.Ytoockogceobfgaa
namespace Go.Proofs.Ytoockogceobfgaa
open Go.RowKit
set_option maxRecDepth 100000

/-- The byte of n at place i. -/
def bt (n : Int) (i : Nat) : UInt8 := UInt8.ofNat ((n / 2 ^ (8 * i)) % 256).toNat
/-- k bytes of n, the greatest first. -/
def bes (n : Int) : Nat → List UInt8
  | 0 => []
  | k + 1 => bt n k :: bes n k
/-- Bytes as a number. -/
def uval (l : List UInt8) : Nat := l.foldl (fun a c => a * 256 + c.toNat) 0

theorem bt_val (n : Int) (i : Nat) : ((bt n i).toNat : Int) = (n / 2 ^ (8 * i)) % 256 := by
  unfold bt
  have h0 : 0 ≤ (n / 2 ^ (8 * i)) % 256 := Int.emod_nonneg _ (by omega)
  have h1 : (n / 2 ^ (8 * i)) % 256 < 256 := Int.emod_lt_of_pos _ (by omega)
  rw [u8_ofNat' _ (by omega)]; omega
theorem bes_len (n : Int) : ∀ k, (bes n k).length = k
  | 0 => rfl
  | k + 1 => by rw [bes, List.length_cons, bes_len n k]
theorem foldl_from (l : List UInt8) : ∀ a : Nat, l.foldl (fun a c => a * 256 + c.toNat) a = a * 2 ^ (8 * l.length) + uval l := by
  induction l with
  | nil => intro a; simp [uval]
  | cons c l ih =>
    intro a
    unfold uval
    rw [List.foldl_cons, List.foldl_cons, ih, ih (0 * 256 + c.toNat), List.length_cons, show 8 * (l.length + 1) = 8 + 8 * l.length by omega, Nat.pow_add]
    rw [show (2 : Nat) ^ 8 = 256 from rfl]
    generalize 2 ^ (8 * l.length) = P
    rw [Nat.zero_mul, Nat.zero_add, Nat.add_mul, Nat.mul_assoc]
    omega
theorem uval_cons (c : UInt8) (l : List UInt8) : uval (c :: l) = c.toNat * 2 ^ (8 * l.length) + uval l := by
  unfold uval
  rw [List.foldl_cons, foldl_from]
  unfold uval
  simp
theorem uval_snoc (l : List UInt8) (c : UInt8) : uval (l ++ [c]) = uval l * 256 + c.toNat := by simp [uval]
theorem uval_lt (l : List UInt8) : uval l < 2 ^ (8 * l.length) := by
  induction l with
  | nil => simp [uval]
  | cons c l ih =>
    rw [uval_cons, List.length_cons, show 8 * (l.length + 1) = 8 + 8 * l.length by omega, Nat.pow_add]
    have := c.toNat_lt
    have h2 : (c.toNat + 1) * 2 ^ (8 * l.length) ≤ 2 ^ 8 * 2 ^ (8 * l.length) := Nat.mul_le_mul_right _ (by omega)
    rw [Nat.add_mul] at h2
    omega
theorem uval_bes (n : Int) : ∀ k, (uval (bes n k) : Int) = n % 2 ^ (8 * k)
  | 0 => by simp [uval, bes]
  | k + 1 => by
    rw [bes, uval_cons, bes_len, Int.natCast_add, Int.natCast_mul, bt_val, uval_bes n k]
    have h1 := Int.emod_def n (2 ^ (8 * k))
    have h2 := Int.emod_def (n / 2 ^ (8 * k)) 256
    have h3 := Int.emod_def n (2 ^ (8 * (k + 1)))
    have h5 : (2 : Int) ^ (8 * (k + 1)) = 2 ^ (8 * k) * 256 := by rw [show 8 * (k + 1) = 8 * k + 8 by omega, Int.pow_add]; rfl
    have h4 : n / 2 ^ (8 * k) / 256 = n / 2 ^ (8 * (k + 1)) := by
      rw [Int.ediv_ediv_of_nonneg (Int.pow_nonneg (by omega)), h5]
    have h6 : ((2 ^ (8 * k) : Nat) : Int) = (2 : Int) ^ (8 * k) := by simp
    rw [h1, h2, h3, h4, h5, h6]
    generalize (2 : Int) ^ (8 * k) = P
    generalize n / (P * 256 : Int) = r
    generalize n / (P : Int) = q
    have e1 : (q - 256 * r) * P = P * q - P * 256 * r := by rw [Int.sub_mul, Int.mul_comm q P, Int.mul_comm (256 * r) P, Int.mul_assoc]
    rw [e1]; omega
theorem uval_nat (n k : Nat) (h : n < 2 ^ (8 * k)) : uval (bes n k) = n := by
  have h1 := uval_bes n k
  have h2 : ((2 ^ (8 * k) : Nat) : Int) = (2 : Int) ^ (8 * k) := by simp
  rw [← h2] at h1
  have h3 : ((n % 2 ^ (8 * k) : Nat) : Int) = (n : Int) % ((2 ^ (8 * k) : Nat) : Int) := Int.natCast_emod _ _
  rw [Nat.mod_eq_of_lt h] at h3
  omega
/-- How many bytes a length takes behind its first one. -/
def lw (n : Nat) : Nat := if n < 256 then 1 else if n < 65536 then 2 else 3
theorem lw_pos (n : Nat) : 1 ≤ lw n ∧ lw n ≤ 3 := by
  unfold lw
  split
  · omega
  · split <;> omega
theorem lw_lt {n : Nat} (h : n < 16777216) : n < 2 ^ (8 * lw n) := by
  unfold lw
  split
  · simpa using ‹n < 256›
  · split
    · simpa using ‹n < 65536›
    · simpa using h
theorem lw_of {n k : Nat} (h0 : 1 ≤ k) (h1 : n < 2 ^ (8 * k)) (h2 : k = 1 ∨ 2 ^ (8 * (k - 1)) ≤ n) (h3 : k ≤ 3) : lw n = k := by
  unfold lw
  obtain rfl | rfl | rfl : k = 1 ∨ k = 2 ∨ k = 3 := by omega
  · have h1' : n < 256 := h1
    rw [if_pos h1']
  · have h1' : n < 65536 := h1
    have h2' : 2 = 1 ∨ 256 ≤ n := h2
    rw [if_neg (by omega), if_pos h1']
  · have h2' : 3 = 1 ∨ 65536 ≤ n := h2
    rw [if_neg (by omega), if_neg (by omega)]
/-- A length as bytes. -/
def lay (n : Nat) : List UInt8 := if n < 128 then [UInt8.ofNat n] else UInt8.ofNat (128 + lw n) :: bes n (lw n)
theorem lay_len (n : Nat) : 1 ≤ (lay n).length ∧ (lay n).length ≤ 4 := by
  unfold lay
  have := lw_pos n
  split
  · simp
  · simp [bes_len]; omega
end Go.Proofs.Ytoockogceobfgaa
namespace Go.Proofs.Ytoockogceobfgaa
open Go.RowKit
set_option maxRecDepth 100000

theorem room1 {l : List UInt8} {u : Value} (hl : l.length ≤ 100000000) : ((l.map bv).length + ([u] : List Value).length) * 1 ≤ 140737488355328 := by simp; omega
set_option maxHeartbeats 1000000 in
theorem laylen_any {w : World} {n : Nat} {v : Value} {l : List UInt8} (h : Own w 5 v (l.map bv)) (hn : n < 16777216) (hl : l.length ≤ 1000000) :
    Calls Try.prog 50 #[v, .int .i64 n] w fun e w' => ∃ v', e = .returned v' ∧ Own w' 5 v' ((l ++ lay n).map bv) ∧ Next w.heap.size v v' ∧ Mod (own v) w w' := by
  by_cases h128 : n < 128
  · have hlay : lay n = [UInt8.ofNat n] := by unfold lay; rw [if_pos h128]
    rw [hlay]
    have hbv := byte_of (n := n) (by omega)
    have hn1 := Lib.hid (room1 (u := .int .u8 n) (show l.length ≤ 100000000 by omega))
    replace hbv := Lib.hid hbv
    have hsl := Sl.one w 5 (.int .u8 n)
    have hown := h.alloc (.cells #[.int .u8 n] 5)
    have ho := one_ok (.int .u8 n) rfl
    obtain ⟨A, c, rfl⟩ := h.shape
    go_enter Try.func50, Try.ntmps50
    go_wp2_with ((with_reducible show wpList _ _ _ (⟨some 13, _, _, _, _, _⟩ :: _) _ _); refine wp_app tyB hown hsl ho rfl (.tmp 9) (.tmp 12) rfl rfl rfl hn1.out ?_; intro v2 w2 k1 k2 k3)
    go_ret
    exact ⟨v2, rfl, by rw [List.map_append]; rw [hbv.out] at k1; exact k1, k3.sooner (by simp), mod_app k2⟩
  · have hlay : lay n = UInt8.ofNat (128 + lw n) :: bes n (lw n) := by unfold lay; rw [if_neg h128]
    replace hlay := Lib.hid hlay
    obtain ⟨A, c, rfl⟩ := h.shape
    rw [List.length_map] at h ⊢
    have hl0 := Lib.hid hl
    go_enter Try.func50, Try.ntmps50
    go_wp2_with fail
    go_loop [5] (fun i => ∃ k : Nat, k ≤ 3 ∧ 1 ≤ k ∧ i = .int .i64 k ∧ Hid (k = 1 ∨ 2 ^ (8 * (k - 1)) ≤ n)) (fun i => 3 - (intOf i).toNat)
    case atStart => exact ⟨1, by omega, by omega, rfl, Lib.hid (.inl rfl)⟩
    case round =>
      obtain ⟨k, hk, hk1, rfl, hlow⟩ := hrel
      by_cases hlt : n < 2 ^ (8 * k)
      · have hw : lw n = k := lw_of hk1 hlt hlow.out hk
        have hd : ((n : Int) / 2 ^ (8 * k)) = 0 := by
          have : ((n / 2 ^ (8 * k) : Nat) : Int) = (n : Int) / 2 ^ (8 * k) := by simp
          rw [← this, Nat.div_eq_of_lt hlt]; rfl
        have hd2 : decide ((0 : Int) < (n : Int) / 2 ^ (8 * k)) = false := by rw [hd]; rfl
        rw [hw] at hlay
        have hbv := byte_of (n := 128 + k) (by omega)
        rw [Int.natCast_add] at hbv
        replace hbv := Lib.hid hbv
        have hn1 := Lib.hid (room1 (u := .int .u8 (128 + (k : Int))) (show l.length ≤ 100000000 by have := hl0.out; omega))
        have hsl := Sl.one w 5 (.int .u8 (128 + (k : Int)))
        have hown := h.alloc (.cells #[.int .u8 (128 + (k : Int))] 5)
        have ho := one_ok (.int .u8 (128 + (k : Int))) rfl
        clear hlt hw hlow
        go_wp2_with ((with_reducible show wpList _ _ _ (⟨some 26, _, _, _, _, _⟩ :: _) _ _); refine wp_app tyB hown hsl ho rfl (.tmp 21) (.tmp 25) rfl rfl rfl hn1.out ?_; intro v2 w2 k1 k2 k3)
        have m0 : Own w2 5 v2 ((l ++ [UInt8.ofNat (128 + k)]).map bv) := by
          rw [List.map_append, List.map_cons, List.map_nil, ← hbv.out]; exact k1
        have m1 : Next w.heap.size (.slice A l.length c) v2 := k3.sooner (by simp)
        have m2 : Mod (own (.slice A l.length c)) w w2 := mod_app k2
        clear k1 k2 k3 hn1 hsl hown ho hbv hd hd2
        go_loopw [0, 6] (fun v i wr => ∃ (j : Nat) (pre : List UInt8), j ≤ k ∧ i = .int .i64 ((j : Int) - 1) ∧ Own wr 5 v ((l ++ pre).map bv) ∧ Hid (pre.length + j = k + 1) ∧ Hid (pre ++ bes n j = lay n) ∧ Next w.heap.size (.slice A l.length c) v ∧ Mod (own (.slice A l.length c)) w wr) (fun _ i _ => ((intOf i) + 1).toNat)
        case atStart => exact ⟨k, _, Nat.le_refl _, rfl, m0, Lib.hid (by simp; omega), Lib.hid (by rw [hlay.out]; rfl), m1, m2⟩
        case round =>
          clear m0 m1 m2
          obtain ⟨j, pre, hj, rfl, p0, pl, pe, p1, p2⟩ := hrel
          rcases j with _ | j
          · rw [show (((0 : Nat) : Int) - 1) = -1 from rfl]
            go_wp2_with fail
            go_ret
            have he := pe.out
            rw [bes, List.append_nil] at he
            exact ⟨_, rfl, by rw [← he]; exact p0, p1, p2⟩
          · rw [show (((j + 1 : Nat) : Int) - 1) = (j : Int) by omega]
            have hbt : bv (bt n j) = .int .u8 ((n : Int) / 2 ^ (8 * j) % 256) := by
              show Value.int .u8 ((bt n j).toNat : Int) = _
              rw [bt_val]
            have hn1 := Lib.hid (room1 (u := bv (bt n j)) (show (l ++ pre).length ≤ 100000000 by have := hl0.out; have := pl.out; rw [List.length_append]; omega))
            have hsl := Sl.one wr 5 (bv (bt n j))
            have hown := p0.alloc (.cells #[bv (bt n j)] 5)
            have ho := one_ok (bv (bt n j)) rfl
            rw [hbt] at hn1 hsl hown ho
            replace hbt := Lib.hid hbt
            obtain ⟨A2, c2, rfl⟩ := p0.shape
            rw [List.length_map] at hown p0 p1 ⊢
            go_wp2_with ((with_reducible show wpList _ _ _ (⟨some 40, _, _, _, _, _⟩ :: _) _ _); refine wp_app tyB hown hsl ho rfl (.tmp 33) (.tmp 39) rfl rfl rfl hn1.out ?_; intro v3 w3 k1 k2 k3)
            refine ⟨⟨j, pre ++ [bt n j], by omega, by go_num, ?_, Lib.hid (by have := pl.out; simp <;> omega), Lib.hid (by have := pe.out; rw [bes] at this; simpa using this), p1.trans k3 (by have := p2.size; simp <;> omega), ?_⟩, by simp [intOf] <;> omega⟩
            · rw [← hbt.out] at k1
              simpa using k1
            · exact p2.then_ (mod_app k2) (fun x hx hh => p1.sub hx hh)
      · have hlt' : 2 ^ (8 * k) ≤ n := by omega
        have hk2 : k < 3 := by
          rcases Nat.lt_or_ge k 3 with h | h
          · exact h
          · obtain rfl : k = 3 := by omega
            have : 16777216 ≤ n := hlt'
            omega
        have hd : 1 ≤ n / 2 ^ (8 * k) := (Nat.le_div_iff_mul_le (Nat.two_pow_pos _)).2 (by omega)
        have hd1 : ((n / 2 ^ (8 * k) : Nat) : Int) = (n : Int) / 2 ^ (8 * k) := by simp
        have hd2 : decide ((0 : Int) < (n : Int) / 2 ^ (8 * k)) = true := by rw [← hd1]; simp; omega
        replace hlt' := Lib.hid hlt'
        clear hd hd1 hlt hlow
        go_wp2_with fail
        exact ⟨⟨k + 1, by omega, by omega, by go_num, Lib.hid (.inr hlt'.out)⟩, by simp [intOf] <;> omega⟩
end Go.Proofs.Ytoockogceobfgaa
namespace Go.Proofs.Ytoockogceobfgaa
open Go.RowKit
set_option maxRecDepth 100000

theorem bown_any {w : World} {S : Nat → Prop} {v : Value} {l : List UInt8} (h : Bs w S v l) (hn : l.length ≤ 281474976710656) :
    Calls Try.prog 63 #[v] w fun e w' => ∃ v', e = .returned v' ∧ Own w' 5 v' (l.map bv) ∧ Fresh w.heap.size v' ∧ Ext w w' ∧ w.heap.size < w'.heap.size := by
  have h0 := h
  obtain ⟨A, c, rfl, h2, h3, h4, h5⟩ := h.open_
  go_enter Try.func63, Try.ntmps63
  go_wp2_with (first
    | ((with_reducible show wpList _ _ _ (⟨some 6, _, _, _, _, _⟩ :: _) _ _); refine wp_make tyB l.length rfl (.tmp 5) (.tmp 5) rfl rfl rfl (by omega) ?_; intro w1 hown1 hext1 hlt1)
    | ((with_reducible show wpList _ _ _ (⟨some 9, _, _, _, _, _⟩ :: _) _ _); refine wp_copy tyB hown1 (h0.ext hext1) (bv_one l) rfl (.tmp 7) (.tmp 8) rfl rfl rfl ?_; intro w2 hown2 hmod2))
  go_ret
  refine ⟨_, rfl, ?_, fun k hk => by have : w.heap.size = k := Option.some.inj hk; omega, hext1.trans hmod2 (fun _ _ h => h) (fun k hk h => ?_), Nat.lt_of_lt_of_le hlt1 hmod2.size⟩
  · simpa [show List.take l.length (l.map bv) = l.map bv from List.take_of_length_le (by simp)] using hown2
  · injection h with h; have : w.heap.size = k := h; omega

set_option maxHeartbeats 1000000 in
theorem tag_any {w : World} {S : Nat → Prop} {y : Value} {L : List (List UInt8)} (t : UInt8) (hy : Rw w S y L) (hl : L.flatten.length ≤ 65536) :
    Calls Try.prog 24 #[.int .u8 t.toNat, y] w fun e w' => ∃ v', e = .returned v' ∧ Own w' 5 v' ((t :: lay L.flatten.length ++ L.flatten).map bv) ∧ Fresh w.heap.size v' ∧ Ext w w' := by
  obtain ⟨A, c, vs, rfl, h1, h2, h3, h4, h5, h6⟩ := hy.open_
  go_enter Try.func24, Try.ntmps24
  go_wp2_with fail
  go_loop [5, 13] (fun n i => ∃ k : Nat, k ≤ L.length ∧ i = .int .i64 k ∧ n = .int .i64 (flen L k : Nat)) (fun _ i => L.length - (intOf i).toNat)
  case atStart => exact ⟨0, Nat.zero_le _, rfl, by simp [flen]⟩
  case round =>
    obtain ⟨k, hk, rfl, rfl⟩ := hrel
    by_cases hlt : k < L.length
    · obtain ⟨ad, x, rfl, hs, hc, hbs⟩ := row_at h4 h5 h6 hlt
      obtain ⟨A2, c2, rfl, k1, k2, k3, k4⟩ := hbs.open_
      have hsn := flen_snoc L k hlt
      have hle := flen_le L k
      have hle1 := flen_le L (k + 1)
      rw [hsn] at hle1
      replace hsn := Lib.hid hsn
      obtain ⟨tot, htot⟩ : ∃ t, t = L.flatten.length := ⟨_, rfl⟩
      rw [← htot] at hl hle hle1
      replace htot := Lib.hid htot
      go_wp2
      exact ⟨⟨k + 1, by omega, by go_num, by rw [hsn.out]; go_num⟩, by simp [intOf] <;> omega⟩
    · have hfl : flen L k = L.flatten.length := flen_all L k (by omega)
      rw [hfl]
      clear hfl
      obtain ⟨n, hn⟩ : ∃ n, n = L.flatten.length := ⟨_, rfl⟩
      rw [← hn]
      rw [← hn] at hl
      replace hn := Lib.hid hn
      go_wp2_with fail
      have hown1 : Own (w.alloc (.cells #[.int .u8 (t.toNat : Int)] 5)) 5 (.slice (some ⟨w.heap.size, 0, none⟩) 1 1) ([t].map bv) := Own.lit w 5 [bv t] (by simp [maxLen])
      have hf1 : Fresh w.heap.size (.slice (some ⟨w.heap.size, 0, none⟩) 1 1) := fun k hk => by have : w.heap.size = k := Option.some.inj hk; omega
      have hx1 : Ext w (w.alloc (.cells #[.int .u8 (t.toNat : Int)] 5)) := (Mod.refl _ w).alloc _
      refine (laylen_any hown1 (by omega) (by simp)).mono ?_
      rintro e w2 ⟨v2, rfl, k1, k2, k3⟩
      have hx2 : Ext w w2 := ext_app0 hx1 hf1 k3
      have hf2 : Fresh w.heap.size v2 := k2.fresh hf1 hx1.size
      have hll := lay_len n
      rw [show [t] ++ lay n = t :: lay n from rfl] at k1
      obtain ⟨ly, hly⟩ : ∃ ly, ly = lay n := ⟨_, rfl⟩
      rw [← hly] at hll k1
      replace hly := Lib.hid hly
      clear k2 k3 hx1 hown1 hf1
      obtain ⟨A2, c2, rfl⟩ := k1.shape
      go_wp2_with fail
      go_loopw [8, 28] (fun v i wr => ∃ k : Nat, k ≤ L.length ∧ i = .int .i64 k ∧ Own wr 5 v ((t :: ly ++ (L.take k).flatten).map bv) ∧ Fresh w.heap.size v ∧ Ext w wr) (fun _ i _ => L.length - (intOf i).toNat)
      case atStart => exact ⟨0, Nat.zero_le _, rfl, by simpa using k1, by simpa using hf2, hx2⟩
      case round =>
        clear hlt k1 hf2 hx2
        obtain ⟨k, hk, rfl, hown, hf, hm⟩ := hrel
        by_cases hlt : k < L.length
        · obtain ⟨ad, x, rfl, hs, hc, hbs⟩ := row_at h4 (h5.mod hm (fun _ _ _ h => h)) (fun k x l hx hl => (h6 k x l hx hl).ext hm) hlt
          have hsn := Lib.hid (flat_snoc L k hlt)
          have hle1 := flatR_take L (k + 1)
          rw [hsn.out, List.length_append, ← hn.out] at hle1
          have hln : (((t :: ly ++ (L.take k).flatten).map bv).length + (L[k].map bv).length) * 1 ≤ 140737488355328 := by
            rw [List.length_map, List.length_append, List.length_cons, List.length_map]; omega
          replace hle1 := Lib.hid hle1
          replace hln := Lib.hid hln
          go_wp2_with ((with_reducible show wpList _ _ _ (⟨some 34, _, _, _, _, _⟩ :: _) _ _); refine wp_app tyB hown hbs (bv_one _) rfl (.tmp 32) (.tmp 33) rfl rfl rfl hln.out ?_; intro v2 w2 hown2 hmod2 hnx2)
          exact ⟨⟨k + 1, by omega, by go_num, by rw [hsn.out, ← List.append_assoc, List.map_append]; exact hown2, hnx2.fresh hf hm.size, ext_app0 hm hf hmod2⟩, by simp [intOf] <;> omega⟩
        · rw [List.take_of_length_le (by omega)] at hown
          go_wp2_with fail
          go_ret
          exact ⟨_, rfl, by rw [← hn.out, ← hly.out]; exact hown, hf, hm⟩
end Go.Proofs.Ytoockogceobfgaa
namespace Go.Proofs.Ytoockogceobfgaa
open Go.RowKit
set_option maxRecDepth 100000

theorem i64_or_byte (m : Int) (c : Nat) (hc : c < 256) : bits .or .i64 (IntKind.i64.wrap (m * 256)) (c : Int) = IntKind.i64.wrap (m * 256 + c) := by
  show IntKind.i64.wrap (((BitVec.ofInt 64 (IntKind.i64.wrap (m * 256)) ||| BitVec.ofInt 64 (c : Int)).toNat : Nat) : Int) = _
  have h1 : (BitVec.ofInt 64 (IntKind.i64.wrap (m * 256))).toNat = 2 ^ 8 * (m % 72057594037927936).toNat := by
    rw [BitVec.toNat_ofInt, IntKind.wrap_i64]
    have : 0 ≤ m % 72057594037927936 := Int.emod_nonneg _ (by omega)
    omega
  have h2 : (BitVec.ofInt 64 (c : Int)).toNat = c := by
    rw [BitVec.toNat_ofInt]; omega
  rw [BitVec.toNat_or, h1, h2, ← Nat.two_pow_add_eq_or_of_lt (by omega), IntKind.wrap_i64, IntKind.wrap_i64]
  have : 0 ≤ m % 72057594037927936 := Int.emod_nonneg _ (by omega)
  have h3 : ((2 ^ 8 * (m % 72057594037927936).toNat + c : Nat) : Int) = 256 * (m % 72057594037927936) + c := by
    rw [Int.natCast_add, Int.natCast_mul, Int.toNat_of_nonneg this]; rfl
  rw [h3]
  omega
theorem i64_or_small (m c : Nat) (hm : m < 36028797018963968) (hc : c < 256) : bits .or .i64 ((m : Int) * 256) (c : Int) = ((m * 256 + c : Nat) : Int) := by
  have h := i64_or_byte m c hc
  rw [IntKind.wrap_i64, IntKind.wrap_i64] at h
  have e1 : ((m : Int) * 256 + 9223372036854775808) % 18446744073709551616 - 9223372036854775808 = (m : Int) * 256 := by omega
  rw [e1] at h
  rw [h]; omega

def bfin (at_ n len : Nat) : Nat × Nat × Nat := if 65536 < n then (0, 0, 5) else if len - at_ < n then (0, 0, 2) else (at_, at_ + n, 0)
/-- Where the first one's body begins and ends. -/
def blook (l : List UInt8) : Nat × Nat × Nat :=
  if l.length = 0 then (0, 0, 2)
  else if l.getD 0 0 &&& 31 = 31 then (0, 0, 3)
  else if l.length = 1 then (0, 0, 2)
  else if (l.getD 1 0).toNat < 128 then bfin 2 (l.getD 1 0).toNat l.length
  else if (l.getD 1 0).toNat - 128 = 0 ∨ 4 < (l.getD 1 0).toNat - 128 then (0, 0, 3)
  else if l.length < 2 + ((l.getD 1 0).toNat - 128) then (0, 0, 2)
  else bfin (2 + ((l.getD 1 0).toNat - 128)) (uval ((l.drop 2).take ((l.getD 1 0).toNat - 128))) l.length

set_option maxHeartbeats 1000000 in
theorem blook_any {w : World} {S : Nat → Prop} {v : Value} {l : List UInt8} (h : Bs w S v l) (hl : l.length ≤ 140737488355328) :
    Calls Try.prog 62 #[v] w fun e w' => e = .returned (.tuple #[.int .i64 ((blook l).1 : Nat), .int .i64 ((blook l).2.1 : Nat), .int .i64 ((blook l).2.2 : Nat)]) ∧ w' = w := by
  obtain ⟨o, ho⟩ : ∃ o, o = blook l := ⟨_, rfl⟩
  rw [← ho]
  unfold blook at ho
  have h0 := h
  obtain ⟨A, c, rfl, h1, h2, h3, h4⟩ := h.open_
  by_cases e0 : l.length = 0
  · rw [if_pos e0] at ho
    subst ho
    have hb : ((l.length : Int) == 0) = true := by rw [e0]; rfl
    go_enter Try.func62, Try.ntmps62
    go_wp2_with fail
    go_ret3
    exact ⟨rfl, rfl⟩
  rw [if_neg e0] at ho
  have hb0 : ((l.length : Int) == 0) = false := by rw [beq_eq_false_iff_ne]; omega
  obtain ⟨ad, hA, hB, hc0⟩ := h4.byte (k := 0) (by omega)
  subst hA
  rw [show ad.add 0 = ad by simp [Addr.add]] at hc0
  have hg0 : l.getD 0 0 = l[0] := by rw [List.getD_eq_getElem?_getD, List.getElem?_eq_getElem (by omega)]; rfl
  rw [hg0] at ho
  have hand : bits .and .u8 (l[0].toNat : Int) 31 = ((l[0] &&& 31).toNat : Int) := u8_and_nat l[0].toNat 31 l[0].toNat_lt (by omega)
  by_cases e1 : l[0] &&& 31 = 31
  · rw [if_pos e1] at ho
    subst ho
    have hb1 : ((((l[0] &&& 31).toNat : Nat) : Int) == 31) = true := by rw [e1]; rfl
    go_enter Try.func62, Try.ntmps62
    go_wp2_with fail
    go_ret3
    exact ⟨rfl, rfl⟩
  rw [if_neg e1] at ho
  have hb1 : ((((l[0] &&& 31).toNat : Nat) : Int) == 31) = false := by
    rw [beq_eq_false_iff_ne]; intro h; exact e1 (UInt8.toNat_inj.1 (by have : (31 : UInt8).toNat = 31 := rfl; omega))
  generalize (((l[0] &&& 31).toNat : Nat) : Int) = zz at *
  have hp := l[0].toNat_lt
  clear hg0 e1
  generalize l[0].toNat = p0 at *
  by_cases e2 : l.length = 1
  · rw [if_pos e2] at ho
    subst ho
    have hb2 : ((l.length : Int) == 1) = true := by rw [e2]; rfl
    go_enter Try.func62, Try.ntmps62
    go_wp2_with fail
    go_ret3
    exact ⟨rfl, rfl⟩
  rw [if_neg e2] at ho
  have hb2 : ((l.length : Int) == 1) = false := by rw [beq_eq_false_iff_ne]; omega
  obtain ⟨ad', hA', hB', hc1⟩ := h4.byte (k := 1) (by omega)
  injection hA' with hA'
  subst hA'
  rw [show ad.add 1 = ⟨ad.block, ad.off + 1, none⟩ by simp [Addr.add]] at hc1
  have hg1 : (l.getD 1 0).toNat = l[1].toNat := by rw [List.getD_eq_getElem?_getD, List.getElem?_eq_getElem (by omega)]; rfl
  rw [hg1] at ho
  have hq := l[1].toNat_lt
  generalize l[1].toNat = q at *
  have hi0 : 0 < l.length := by omega
  have hi1 : 1 < (l.length : Int) := by omega
  clear hg1 e0 e2
  by_cases e3 : q < 128
  · rw [if_pos e3] at ho
    unfold bfin at ho
    rw [if_neg (by omega)] at ho
    by_cases e4 : l.length - 2 < q
    · rw [if_pos e4] at ho
      subst ho
      go_enter Try.func62, Try.ntmps62
      go_wp2_with fail
      go_ret3
      exact ⟨rfl, rfl⟩
    · rw [if_neg e4] at ho
      subst ho
      go_enter Try.func62, Try.ntmps62
      go_wp2_with fail
      go_ret3
      exact ⟨rfl, rfl⟩
  rw [if_neg e3] at ho
  obtain ⟨k, hk⟩ : ∃ k, k = q - 128 := ⟨_, rfl⟩
  rw [← hk] at ho
  by_cases e4 : k = 0 ∨ 4 < k
  · rw [if_pos e4] at ho
    subst ho
    have hb3 : ((q : Int) - 128 == 0) = decide (k = 0) := by rw [Bool.eq_iff_iff]; simp only [beq_iff_eq, decide_eq_true_eq]; omega
    have hb4 : decide ((4 : Int) < (q : Int) - 128) = decide (4 < k) := by rw [Bool.eq_iff_iff]; simp only [decide_eq_true_eq]; omega
    rcases e4 with e4 | e4
    · rw [decide_eq_true e4] at hb3
      go_enter Try.func62, Try.ntmps62
      go_wp2_with fail
      go_ret3
      exact ⟨rfl, rfl⟩
    · rw [decide_eq_true e4] at hb4
      rw [decide_eq_false (by omega)] at hb3
      go_enter Try.func62, Try.ntmps62
      go_wp2_with fail
      go_ret3
      exact ⟨rfl, rfl⟩
  rw [if_neg e4] at ho
  have hk4 : k ≤ 4 := by omega
  have hk1 : 1 ≤ k := by omega
  have hb4 : (q : Int) - 128 = (k : Int) := by omega
  have hq1 : 128 ≤ (q : Int) := by omega
  have hb3 : ((k : Int) == 0) = false := by rw [beq_eq_false_iff_ne]; omega
  clear hk e3 e4
  by_cases e5 : l.length < 2 + k
  · rw [if_pos e5] at ho
    subst ho
    have hb5 : decide ((l.length : Int) < 2 + (k : Int)) = true := by rw [decide_eq_true_eq]; omega
    go_enter Try.func62, Try.ntmps62
    go_wp2_with fail
    go_ret3
    exact ⟨rfl, rfl⟩
  rw [if_neg e5] at ho
  go_enter Try.func62, Try.ntmps62
  go_wp2_with fail
  obtain ⟨ds, hds⟩ : ∃ ds, ds = (l.drop 2).take k := ⟨_, rfl⟩
  have hdl : ds.length = k := by rw [hds, List.length_take, List.length_drop]; omega
  have hcell : ∀ j, (hj : j < k) → w.cell? ⟨ad.block, ad.off + 2 + j, none⟩ = some (.int .u8 ((ds[j]'(by omega)).toNat : Int)) := fun j hj => by
    obtain ⟨ad9, hA9, hB9, hc9⟩ := h4.byte (k := 2 + j) (by omega)
    injection hA9 with hA9
    subst hA9
    rw [show (⟨ad.block, ad.off + 2 + j, none⟩ : Addr) = ad.add (2 + j) by simp [Addr.add, Nat.add_assoc], hc9]
    congr 3
    simp [hds]
  rw [← hds] at ho
  replace hds := Lib.hid hds
  go_loop [5, 47] (fun n i => ∃ j : Nat, j ≤ k ∧ i = .int .i64 j ∧ n = .int .i64 (uval (ds.take j) : Nat)) (fun _ i => k - (intOf i).toNat)
  case atStart => exact ⟨0, Nat.zero_le _, rfl, by simp [uval]⟩
  case round =>
    obtain ⟨j, hj, rfl, rfl⟩ := hrel
    by_cases hlt : j < k
    · have hc9 := hcell j hlt
      have hsn : uval (ds.take (j + 1)) = uval (ds.take j) * 256 + ds[j].toNat := by
        rw [List.take_succ_eq_append_getElem (by omega), uval_snoc]
      have hlt2 : uval (ds.take j) < 16777216 := by
        have := uval_lt (ds.take j)
        have h9 : 2 ^ (8 * (ds.take j).length) ≤ 2 ^ (8 * 3) := Nat.pow_le_pow_right (by omega) (by rw [List.length_take]; omega)
        have h10 : (2 : Nat) ^ (8 * 3) = 16777216 := rfl
        omega
      have hb := ds[j].toNat_lt
      replace hsn := Lib.hid hsn
      generalize ds[j].toNat = b at *
      generalize uval (ds.take j) = u at *
      have hor := i64_or_small u b (by omega) (by omega)
      clear hcell hdl
      go_wp2_with fail
      exact ⟨⟨j + 1, by omega, by go_num, by rw [hsn.out]; go_num⟩, by simp [intOf] <;> omega⟩
    · rw [List.take_of_length_le (by omega)]
      have hul := uval_lt ds
      have h9 : 2 ^ (8 * ds.length) ≤ 2 ^ (8 * 4) := Nat.pow_le_pow_right (by omega) (by omega)
      have h10 : (2 : Nat) ^ (8 * 4) = 4294967296 := rfl
      have hu : uval ds < 4294967296 := by omega
      clear hul h9 h10 hcell
      generalize uval ds = u at *
      unfold bfin at ho
      by_cases e6 : 65536 < u
      · rw [if_pos e6] at ho
        subst ho
        go_wp2_with fail
        go_ret3
        exact ⟨rfl, rfl⟩
      rw [if_neg e6] at ho
      by_cases e7 : l.length - (2 + k) < u
      · rw [if_pos e7] at ho
        subst ho
        have hb7 : decide ((l.length : Int) - (2 + (k : Int)) < (u : Int)) = true := by rw [decide_eq_true_eq]; omega
        go_wp2_with fail
        go_ret3
        exact ⟨rfl, rfl⟩
      · rw [if_neg e7] at ho
        subst ho
        have hb7 : decide ((l.length : Int) - (2 + (k : Int)) < (u : Int)) = false := by rw [decide_eq_false_iff_not]; omega
        go_wp2_with fail
        go_ret3
        exact ⟨by simp only []; rfl, rfl⟩
end Go.Proofs.Ytoockogceobfgaa
namespace Go.Proofs.Ytoockogceobfgaa
open Go.RowKit
set_option maxRecDepth 100000

theorem results_tmp4 {fn : Func} {t u v x : Tmp} (h : fn.results = #[.tmp t, .tmp u, .tmp v, .tmp x]) (tmps : Array Value) (P : Program) (w : World) :
    (results fn tmps).run P w = .ok (.tuple #[tmps.getD t undef, tmps.getD u undef, tmps.getD v undef, tmps.getD x undef]) w := by
  simp [results, h]
theorem bfin_ok {a n len : Nat} (h : (bfin a n len).2.2 = 0) (ha : a ≤ len) : (bfin a n len).1 = a ∧ (bfin a n len).2.1 = a + n ∧ a + n ≤ len ∧ n ≤ 65536 := by
  unfold bfin at h ⊢
  by_cases h1 : 65536 < n
  · rw [if_pos h1] at h; cases h
  rw [if_neg h1] at h ⊢
  by_cases h2 : len - a < n
  · rw [if_pos h2] at h; cases h
  rw [if_neg h2]
  exact ⟨rfl, rfl, by omega, by omega⟩
theorem blook_ok {l : List UInt8} (h : (blook l).2.2 = 0) : 2 ≤ (blook l).1 ∧ (blook l).1 ≤ (blook l).2.1 ∧ (blook l).2.1 ≤ l.length := by
  unfold blook at h ⊢
  split at h
  · cases h
  rw [if_neg (by assumption)]
  split at h
  · cases h
  rw [if_neg (by assumption)]
  split at h
  · cases h
  rw [if_neg (by assumption)]
  split at h
  · rw [if_pos (by assumption)]
    have := bfin_ok h (by omega)
    omega
  rw [if_neg (by assumption)]
  split at h
  · cases h
  rw [if_neg (by assumption)]
  split at h
  · cases h
  rw [if_neg (by assumption)]
  have := bfin_ok h (by omega)
  omega
/-- The first one, and what stands behind. -/
def bnext (l : List UInt8) : UInt8 × List UInt8 × List UInt8 × Nat :=
  if (blook l).2.2 = 0 then (l.getD 0 0, (l.drop (blook l).1).take ((blook l).2.1 - (blook l).1), l.drop (blook l).2.1, 0) else (0, [], [], (blook l).2.2)

set_option maxHeartbeats 1000000 in
theorem bnext_any {w : World} {S : Nat → Prop} {v : Value} {l : List UInt8} (h : Bs w S v l) (hl : l.length ≤ 140737488355328) :
    Calls Try.prog 34 #[v] w fun e w' => ∃ v1 v2, e = .returned (.tuple #[.int .u8 (bnext l).1.toNat, v1, v2, .int .i64 ((bnext l).2.2.2 : Nat)]) ∧ Own w' 5 v1 ((bnext l).2.1.map bv) ∧ Own w' 5 v2 ((bnext l).2.2.1.map bv) ∧ Fresh w.heap.size v1 ∧ Fresh w.heap.size v2 ∧ Ext w w' := by
  have hok := @blook_ok l
  have h0 := h
  obtain ⟨A, c, rfl, h1, h2, h3, h4⟩ := h.open_
  obtain ⟨o, ho⟩ : ∃ o, o = bnext l := ⟨_, rfl⟩
  rw [← ho]
  unfold bnext at ho
  replace ho := Lib.hid ho
  go_enter Try.func34, Try.ntmps34
  go_wp2_with fail
  refine (blook_any h0 hl).mono ?_
  rintro e w1 ⟨rfl, rfl⟩
  replace ho := ho.out
  generalize blook l = d at *
  obtain ⟨m, n, er⟩ := d
  simp only at hok ho ⊢
  by_cases hd : er = 0
  · subst hd
    obtain ⟨a1, a2, a3⟩ := hok rfl
    clear hok
    rw [if_pos rfl] at ho
    obtain ⟨ad, hA, hB, hc0⟩ := h4.byte (k := 0) (by omega)
    subst hA
    rw [show ad.add 0 = ad by simp [Addr.add]] at hc0
    rw [show l.getD 0 0 = l[0] by rw [List.getD_eq_getElem?_getD, List.getElem?_eq_getElem (by omega)]; rfl] at ho
    have hi0 : 0 < l.length := by omega
    generalize l[0] = b0 at *
    replace ho := Lib.hid ho
    have x1 : (0 : Int) ≤ (m : Int) := by omega
    have x2 : (m : Int) ≤ (n : Int) := by omega
    have x3 : (n : Int) ≤ (l.length : Int) := by omega
    have x4 : (n : Int) ≤ (c : Int) := by omega
    have x5 : (0 : Int) ≤ (n : Int) := by omega
    have x6 : (l.length : Int) ≤ (c : Int) := by omega
    have hx : ∀ wx, Ext w1.drew wx → wx.cell? ad = some (.int .u8 (b0.toNat : Int)) := fun wx hx => (hx.cell (lt_of_cell (w := w1) hc0) (fun h => h)).trans hc0
    have hl1 : ((l.drop m).take (n - m)).length ≤ 281474976710656 := by simp only [List.length_take, List.length_drop]; omega
    have hl2 : (l.drop n).length ≤ 281474976710656 := by simp only [List.length_drop]; omega
    have hbd : Bs w1.drew S (.slice (some ad) l.length c) l := h0
    have three : (n = c ∧ m = c ∧ Bs w1.drew S (.slice (some ad) (n - m) 0) ((l.drop m).take (n - m)) ∧ Bs w1.drew S (.slice (some ad) (l.length - n) 0) (l.drop n)) ∨ (n = c ∧ ¬ c = m ∧ Bs w1.drew S (.slice (some (ad.add m)) (n - m) (c - m)) ((l.drop m).take (n - m)) ∧ Bs w1.drew S (.slice (some ad) (l.length - n) 0) (l.drop n)) ∨ (¬ c = n ∧ ¬ c = m ∧ Bs w1.drew S (.slice (some (ad.add m)) (n - m) (c - m)) ((l.drop m).take (n - m)) ∧ Bs w1.drew S (.slice (some (ad.add n)) (l.length - n) (c - n)) (l.drop n)) := by
      have t1 : ¬ c = m → Bs w1.drew S (.slice (some (ad.add m)) (n - m) (c - m)) ((l.drop m).take (n - m)) := fun _ => by
        have := hbd.rest (m := m) (by omega)
        rw [show l.length - m = (l.drop m).length by simp] at this
        exact this.begin (m := n - m) (by simp; omega)
      have t2 : n = c → Bs w1.drew S (.slice (some ad) (l.length - n) 0) (l.drop n) := fun h => hbd.rest0 (m := n) (by omega) h.symm
      by_cases hcm : c = m
      · refine .inl ⟨by omega, hcm.symm, ?_, t2 (by omega)⟩
        have := hbd.rest0 (m := m) (by omega) hcm
        rw [show l.length - m = (l.drop m).length by simp] at this
        exact this.begin (m := n - m) (by simp; omega)
      · by_cases hcn : n = c
        · exact .inr (.inl ⟨hcn, hcm, t1 hcm, t2 hcn⟩)
        · exact .inr (.inr ⟨fun h => hcn h.symm, hcm, t1 hcm, hbd.rest (m := n) (by omega)⟩)
    clear h h0 h4 h3 hbd hl
    generalize (l.drop m).take (n - m) = bd at *
    generalize l.drop n = rs at *
    rcases three with ⟨hcn, hcm, hb1, hb2⟩ | ⟨hcn, hcm, hb1, hb2⟩ | ⟨hcn, hcm, hb1, hb2⟩
    · subst hcn
      subst hcm
      rw [Nat.sub_self] at hb1
      rw [show l.length - m = 0 by omega] at hb2
      have e1 : bd = [] := List.eq_nil_of_length_eq_zero (by obtain ⟨_, _, h, _⟩ := hb1.open_; injection h with _ h; exact h.symm)
      have e2 : rs = [] := List.eq_nil_of_length_eq_zero (by obtain ⟨_, _, h, _⟩ := hb2.open_; injection h with _ h; exact h.symm)
      subst e1
      subst e2
      go_upto_region 4 with fail
      go_cut [2, 3, 4, 5] (fun s2 s3 s4 s5 wx => s2 = .int .u8 (b0.toNat : Int) ∧ s5 = .int .i64 0 ∧ Own wx 5 s3 (([] : List UInt8).map bv) ∧ Own wx 5 s4 (([] : List UInt8).map bv) ∧ Fresh w1.heap.size s3 ∧ Fresh w1.heap.size s4 ∧ Ext w1 wx)
      case first =>
        go_region_held3 (fun w' => w'.cell? ad = some (.int .u8 (b0.toNat : Int))) (first | exact hc0 | exact hx _ p3 | exact hx _ q3 | exact hx _ (ext_trans p3 q3) | exact hx _ (ext_trans q3 p3))
          ((go_at_call 63; first
            | (with_reducible show Calls _ _ #[.slice (some ad) _ _] w1.drew _; refine (bown_any hb1 hl1).mono ?_; rintro e w2 ⟨v1, rfl, p1, p2, p3, p4⟩)
            | (with_reducible show Calls _ _ #[.slice (some ad) _ _] _ _; refine (bown_any (hb2.ext p3) hl2).mono ?_; rintro e w3 ⟨v2, rfl, q1, q2, q3, q4⟩; replace q2 := q2.mono p3.size; replace p1 := p1.mod q3 (fun _ _ h => h))))
        all_goals go_wp2_with fail
        all_goals go_meet
        all_goals first
          | exact ⟨rfl, rfl, p1, q1, p2, q2, ((Mod.refl _ w1).drew).trans (ext_trans p3 q3) (fun _ _ h => h) (fun _ _ h => h)⟩
          | exact ⟨rfl, rfl, q1, p1, q2, p2, ((Mod.refl _ w1).drew).trans (ext_trans p3 q3) (fun _ _ h => h) (fun _ _ h => h)⟩
          | exact ⟨rfl, rfl, p1, q1, p2, q2, ((Mod.refl _ w1).drew).trans (ext_trans q3 p3) (fun _ _ h => h) (fun _ _ h => h)⟩
      case rest =>
        obtain ⟨rfl, rfl, r1, r2, r3, r4, r5⟩ := hcut
        go_wp2_with fail
        (try simp only [Exit.inBlock, Exit.then]); refine bodyPost_ret (results_tmp4 rfl _ _ _) rfl ?_
        rw [ho.out]
        exact ⟨_, _, rfl, r1, r2, r3, r4, r5⟩
    · subst hcn
      rw [show l.length - n = 0 by omega] at hb2
      go_upto_region 4 with fail
      go_cut [2, 3, 4, 5] (fun s2 s3 s4 s5 wx => s2 = .int .u8 (b0.toNat : Int) ∧ s5 = .int .i64 0 ∧ Own wx 5 s3 (bd.map bv) ∧ Own wx 5 s4 (rs.map bv) ∧ Fresh w1.heap.size s3 ∧ Fresh w1.heap.size s4 ∧ Ext w1 wx)
      case first =>
        go_region_held3 (fun w' => w'.cell? ad = some (.int .u8 (b0.toNat : Int))) (first | exact hc0 | exact hx _ p3 | exact hx _ q3 | exact hx _ (ext_trans p3 q3) | exact hx _ (ext_trans q3 p3))
          ((go_at_call 63; first
            | (with_reducible show Calls _ _ #[.slice (some (ad.add m)) _ _] w1.drew _; refine (bown_any hb1 hl1).mono ?_; rintro e w2 ⟨v1, rfl, p1, p2, p3, p4⟩)
            | (with_reducible show Calls _ _ #[.slice (some (ad.add m)) _ _] _ _; refine (bown_any (hb1.ext q3) hl1).mono ?_; rintro e w3 ⟨v1, rfl, p1, p2, p3, p4⟩; replace p2 := p2.mono q3.size; replace q1 := q1.mod p3 (fun _ _ h => h))
            | (with_reducible show Calls _ _ #[.slice (some ad) _ _] w1.drew _; refine (bown_any hb2 hl2).mono ?_; rintro e w2 ⟨v2, rfl, q1, q2, q3, q4⟩)
            | (with_reducible show Calls _ _ #[.slice (some ad) _ _] _ _; refine (bown_any (hb2.ext p3) hl2).mono ?_; rintro e w3 ⟨v2, rfl, q1, q2, q3, q4⟩; replace q2 := q2.mono p3.size; replace p1 := p1.mod q3 (fun _ _ h => h))))
        all_goals go_wp2_with fail
        all_goals go_meet
        all_goals first
          | exact ⟨rfl, rfl, p1, q1, p2, q2, ((Mod.refl _ w1).drew).trans (ext_trans p3 q3) (fun _ _ h => h) (fun _ _ h => h)⟩
          | exact ⟨rfl, rfl, q1, p1, q2, p2, ((Mod.refl _ w1).drew).trans (ext_trans p3 q3) (fun _ _ h => h) (fun _ _ h => h)⟩
          | exact ⟨rfl, rfl, p1, q1, p2, q2, ((Mod.refl _ w1).drew).trans (ext_trans q3 p3) (fun _ _ h => h) (fun _ _ h => h)⟩
      case rest =>
        obtain ⟨rfl, rfl, r1, r2, r3, r4, r5⟩ := hcut
        go_wp2_with fail
        (try simp only [Exit.inBlock, Exit.then]); refine bodyPost_ret (results_tmp4 rfl _ _ _) rfl ?_
        rw [ho.out]
        exact ⟨_, _, rfl, r1, r2, r3, r4, r5⟩
    · skip
      go_upto_region 4 with fail
      go_cut [2, 3, 4, 5] (fun s2 s3 s4 s5 wx => s2 = .int .u8 (b0.toNat : Int) ∧ s5 = .int .i64 0 ∧ Own wx 5 s3 (bd.map bv) ∧ Own wx 5 s4 (rs.map bv) ∧ Fresh w1.heap.size s3 ∧ Fresh w1.heap.size s4 ∧ Ext w1 wx)
      case first =>
        go_region_held3 (fun w' => w'.cell? ad = some (.int .u8 (b0.toNat : Int))) (first | exact hc0 | exact hx _ p3 | exact hx _ q3 | exact hx _ (ext_trans p3 q3) | exact hx _ (ext_trans q3 p3))
          ((go_at_call 63; first
            | (with_reducible show Calls _ _ #[.slice (some (ad.add m)) _ _] w1.drew _; refine (bown_any hb1 hl1).mono ?_; rintro e w2 ⟨v1, rfl, p1, p2, p3, p4⟩)
            | (with_reducible show Calls _ _ #[.slice (some (ad.add m)) _ _] _ _; refine (bown_any (hb1.ext q3) hl1).mono ?_; rintro e w3 ⟨v1, rfl, p1, p2, p3, p4⟩; replace p2 := p2.mono q3.size; replace q1 := q1.mod p3 (fun _ _ h => h))
            | (with_reducible show Calls _ _ #[.slice (some (ad.add n)) _ _] w1.drew _; refine (bown_any hb2 hl2).mono ?_; rintro e w2 ⟨v2, rfl, q1, q2, q3, q4⟩)
            | (with_reducible show Calls _ _ #[.slice (some (ad.add n)) _ _] _ _; refine (bown_any (hb2.ext p3) hl2).mono ?_; rintro e w3 ⟨v2, rfl, q1, q2, q3, q4⟩; replace q2 := q2.mono p3.size; replace p1 := p1.mod q3 (fun _ _ h => h))))
        all_goals go_wp2_with fail
        all_goals go_meet
        all_goals first
          | exact ⟨rfl, rfl, p1, q1, p2, q2, ((Mod.refl _ w1).drew).trans (ext_trans p3 q3) (fun _ _ h => h) (fun _ _ h => h)⟩
          | exact ⟨rfl, rfl, q1, p1, q2, p2, ((Mod.refl _ w1).drew).trans (ext_trans p3 q3) (fun _ _ h => h) (fun _ _ h => h)⟩
          | exact ⟨rfl, rfl, p1, q1, p2, q2, ((Mod.refl _ w1).drew).trans (ext_trans q3 p3) (fun _ _ h => h) (fun _ _ h => h)⟩
      case rest =>
        obtain ⟨rfl, rfl, r1, r2, r3, r4, r5⟩ := hcut
        go_wp2_with fail
        (try simp only [Exit.inBlock, Exit.then]); refine bodyPost_ret (results_tmp4 rfl _ _ _) rfl ?_
        rw [ho.out]
        exact ⟨_, _, rfl, r1, r2, r3, r4, r5⟩
  · have hd1 : ((er : Int) != 0) = true := by rw [bne_iff_ne]; omega
    rw [if_neg hd] at ho
    subst ho
    go_wp2_with fail
    (try simp only [Exit.inBlock, Exit.then]); refine bodyPost_ret (results_tmp4 rfl _ _ _) rfl ?_
    exact ⟨_, _, rfl, Own.nil _ _, Own.nil _ _, fresh_nil _ _ _, fresh_nil _ _ _, Mod.refl _ _⟩
end Go.Proofs.Ytoockogceobfgaa
namespace Go.Proofs.Ytoockogceobfgaa
open Go.RowKit
set_option maxRecDepth 100000

/-- n fits in k bytes. -/
def FitsI (n : Int) (k : Nat) : Prop := n / 2 ^ (8 * k - 1) = n / 9223372036854775808
/-- k is how many bytes n takes. -/
def IsW (n : Int) (k : Nat) : Prop := 1 ≤ k ∧ k ≤ 8 ∧ FitsI n k ∧ (k = 1 ∨ ¬ FitsI n (k - 1))
theorem fits8 (n : Int) : FitsI n 8 := rfl

set_option maxHeartbeats 1000000 in
theorem int_any {w : World} (n : Int) (_h0 : -9223372036854775808 ≤ n) (_h1 : n ≤ 9223372036854775807) :
    Calls Try.prog 51 #[.int .i64 n] w fun e w' => ∃ k v', e = .returned v' ∧ IsW n k ∧ Own w' 5 v' ((bes n k).map bv) ∧ Fresh w.heap.size v' ∧ Ext w w' := by
  go_enter Try.func51, Try.ntmps51
  go_wp2_with fail
  go_loop [3] (fun i => ∃ k : Nat, k ≤ 8 ∧ 1 ≤ k ∧ i = .int .i64 k ∧ Hid (k = 1 ∨ ¬ FitsI n (k - 1))) (fun i => 8 - (intOf i).toNat)
  case atStart => exact ⟨1, by omega, by omega, rfl, Lib.hid (.inl rfl)⟩
  case round =>
    obtain ⟨k, hk, hk1, rfl, hlow⟩ := hrel
    by_cases h8 : k < 8
    · by_cases hf : FitsI n k
      · have hw : Hid (IsW n k) := Lib.hid ⟨hk1, hk, hf, hlow.out⟩
        have hb : (n / 2 ^ (8 * k - 1) != n / 9223372036854775808) = false := by rw [show n / 2 ^ (8 * k - 1) = n / 9223372036854775808 from hf]; simp
        clear hlow hf
        go_wp2_with ((with_reducible show wpList _ _ _ (⟨some 21, _, _, _, _, _⟩ :: _) _ _); refine wp_make0 tyB k rfl (.const (.int .i64 0)) (.tmp 20) rfl rfl rfl (by omega) ?_; intro w1 hown1 hext1 hlt1)
        have hf1 : Fresh w.heap.size (.slice (some ⟨w.heap.size, 0, none⟩) 0 k) := fun x hk => by have : w.heap.size = x := Option.some.inj hk; omega
        clear hlt1
        go_loopw [4, 5] (fun v i wr => ∃ (j : Nat) (pre : List UInt8), j ≤ k ∧ i = .int .i64 ((j : Int) - 1) ∧ Own wr 5 v (pre.map bv) ∧ Hid (pre.length + j = k) ∧ Hid (pre ++ bes n j = bes n k) ∧ Fresh w.heap.size v ∧ Ext w wr) (fun _ i _ => ((intOf i) + 1).toNat)
        case atStart => exact ⟨k, [], Nat.le_refl _, rfl, hown1, Lib.hid (by simp), Lib.hid rfl, hf1, hext1⟩
        case round =>
          clear hown1 hf1 hext1
          obtain ⟨j, pre, hj, rfl, p0, pl, pe, p1, p2⟩ := hrel
          rcases j with _ | j
          · rw [show (((0 : Nat) : Int) - 1) = -1 from rfl]
            go_wp2_with fail
            go_ret
            have he := pe.out
            rw [bes, List.append_nil] at he
            exact ⟨k, _, rfl, hw.out, by rw [← he]; exact p0, p1, p2⟩
          · rw [show (((j + 1 : Nat) : Int) - 1) = (j : Int) by omega]
            have hbt : bv (bt n j) = .int .u8 (n / 2 ^ (8 * j) % 256) := by
              show Value.int .u8 ((bt n j).toNat : Int) = _
              rw [bt_val]
            have hn1 := Lib.hid (room1 (u := bv (bt n j)) (show pre.length ≤ 100000000 by have := pl.out; omega))
            have hsl := Sl.one wr 5 (bv (bt n j))
            have hown := p0.alloc (.cells #[bv (bt n j)] 5)
            have ho := one_ok (bv (bt n j)) rfl
            rw [hbt] at hn1 hsl hown ho
            replace hbt := Lib.hid hbt
            obtain ⟨A2, c2, rfl⟩ := p0.shape
            rw [List.length_map] at hown p0 p1 ⊢
            go_wp2_with ((with_reducible show wpList _ _ _ (⟨some 35, _, _, _, _, _⟩ :: _) _ _); refine wp_app tyB hown hsl ho rfl (.tmp 28) (.tmp 34) rfl rfl rfl hn1.out ?_; intro v3 w3 k1 k2 k3)
            refine ⟨⟨j, pre ++ [bt n j], by omega, by go_num, ?_, Lib.hid (by have := pl.out; simp <;> omega), Lib.hid (by have := pe.out; rw [bes] at this; simpa using this), (k3.sooner (by simp)).fresh p1 p2.size, ?_⟩, by simp [intOf] <;> omega⟩
            · rw [← hbt.out] at k1
              simpa using k1
            · exact ext_app p2 p1 k2
      · have hb : (n / 2 ^ (8 * k - 1) != n / 9223372036854775808) = true := by rw [bne_iff_ne]; exact hf
        replace hf := Lib.hid hf
        go_wp2_with fail
        exact ⟨⟨k + 1, by omega, by omega, by go_num, Lib.hid (.inr hf.out)⟩, by simp [intOf] <;> omega⟩
    · obtain rfl : k = 8 := by omega
      have hw : Hid (IsW n 8) := Lib.hid ⟨hk1, hk, fits8 n, hlow.out⟩
      clear hlow
      go_wp2_with ((with_reducible show wpList _ _ _ (⟨some 21, _, _, _, _, _⟩ :: _) _ _); refine wp_make0 tyB 8 rfl (.const (.int .i64 0)) (.tmp 20) rfl rfl rfl (by omega) ?_; intro w1 hown1 hext1 hlt1)
      have hf1 : Fresh w.heap.size (.slice (some ⟨w.heap.size, 0, none⟩) 0 8) := fun x hk => by have : w.heap.size = x := Option.some.inj hk; omega
      clear hlt1
      go_loopw [4, 5] (fun v i wr => ∃ (j : Nat) (pre : List UInt8), j ≤ 8 ∧ i = .int .i64 ((j : Int) - 1) ∧ Own wr 5 v (pre.map bv) ∧ Hid (pre.length + j = 8) ∧ Hid (pre ++ bes n j = bes n 8) ∧ Fresh w.heap.size v ∧ Ext w wr) (fun _ i _ => ((intOf i) + 1).toNat)
      case atStart => exact ⟨8, [], Nat.le_refl _, rfl, hown1, Lib.hid (by simp), Lib.hid rfl, hf1, hext1⟩
      case round =>
        clear hown1 hf1 hext1
        obtain ⟨j, pre, hj, rfl, p0, pl, pe, p1, p2⟩ := hrel
        rcases j with _ | j
        · rw [show (((0 : Nat) : Int) - 1) = -1 from rfl]
          go_wp2_with fail
          go_ret
          have he := pe.out
          rw [bes, List.append_nil] at he
          exact ⟨8, _, rfl, hw.out, by rw [← he]; exact p0, p1, p2⟩
        · rw [show (((j + 1 : Nat) : Int) - 1) = (j : Int) by omega]
          have hbt : bv (bt n j) = .int .u8 (n / 2 ^ (8 * j) % 256) := by
            show Value.int .u8 ((bt n j).toNat : Int) = _
            rw [bt_val]
          have hn1 := Lib.hid (room1 (u := bv (bt n j)) (show pre.length ≤ 100000000 by have := pl.out; omega))
          have hsl := Sl.one wr 5 (bv (bt n j))
          have hown := p0.alloc (.cells #[bv (bt n j)] 5)
          have ho := one_ok (bv (bt n j)) rfl
          rw [hbt] at hn1 hsl hown ho
          replace hbt := Lib.hid hbt
          obtain ⟨A2, c2, rfl⟩ := p0.shape
          rw [List.length_map] at hown p0 p1 ⊢
          go_wp2_with ((with_reducible show wpList _ _ _ (⟨some 35, _, _, _, _, _⟩ :: _) _ _); refine wp_app tyB hown hsl ho rfl (.tmp 28) (.tmp 34) rfl rfl rfl hn1.out ?_; intro v3 w3 k1 k2 k3)
          refine ⟨⟨j, pre ++ [bt n j], by omega, by go_num, ?_, Lib.hid (by have := pl.out; simp <;> omega), Lib.hid (by have := pe.out; rw [bes] at this; simpa using this), (k3.sooner (by simp)).fresh p1 p2.size, ?_⟩, by simp [intOf] <;> omega⟩
          · rw [← hbt.out] at k1
            simpa using k1
          · exact ext_app p2 p1 k2
end Go.Proofs.Ytoockogceobfgaa
namespace Go.Proofs.Ytoockogceobfgaa
open Go.RowKit
set_option maxRecDepth 100000

theorem isw_129 {k : Nat} (h : IsW (-129) k) : k = 2 := by
  obtain ⟨h1, h2, h3, h4⟩ := h
  have e1 : ¬ FitsI (-129) 1 := by unfold FitsI; decide
  have e2 : FitsI (-129) 2 := by unfold FitsI; decide
  have e3 : FitsI (-129) 3 := by unfold FitsI; decide
  have e4 : FitsI (-129) 4 := by unfold FitsI; decide
  have e5 : FitsI (-129) 5 := by unfold FitsI; decide
  have e6 : FitsI (-129) 6 := by unfold FitsI; decide
  have e7 : FitsI (-129) 7 := by unfold FitsI; decide
  obtain rfl | rfl | rfl | rfl | rfl | rfl | rfl | rfl : k = 1 ∨ k = 2 ∨ k = 3 ∨ k = 4 ∨ k = 5 ∨ k = 6 ∨ k = 7 ∨ k = 8 := by omega
  · exact absurd h3 e1
  · rfl
  · exact absurd e2 (h4.resolve_left (by omega))
  · exact absurd e3 (h4.resolve_left (by omega))
  · exact absurd e4 (h4.resolve_left (by omega))
  · exact absurd e5 (h4.resolve_left (by omega))
  · exact absurd e6 (h4.resolve_left (by omega))
  · exact absurd e7 (h4.resolve_left (by omega))

theorem known_row24 (w : World) : Rw ((w.alloc (.cells #[.int .u8 97] 5 (1, 2))).alloc (.cells #[.slice (some ⟨w.heap.size, 0, none⟩) 1 1] 26)) (fun k => w.heap.size ≤ k) (.slice (some ⟨w.heap.size + 1, 0, none⟩) 1 1) [[97]] := by
  have hb : Bs (w.alloc (.cells #[.int .u8 97] 5 (1, 2))) (fun k => k = w.heap.size) (.slice (some ⟨w.heap.size, 0, none⟩) 1 1) [97] := Bs.text w 5 [97] (1, 2) (by simp [maxLen])
  have := Rw.one 26 hb
  rw [show (w.alloc (.cells #[.int .u8 97] 5 (1, 2))).heap.size = w.heap.size + 1 by simp] at this
  exact this.mono (fun k _ h => by rcases h with h | h <;> omega)

end Go.Proofs.Ytoockogceobfgaa
