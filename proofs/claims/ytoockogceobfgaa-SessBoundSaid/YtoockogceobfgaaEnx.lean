/- entries in memory; great; an entry read in, its weight within its bulk. -/
import Derived.Test.YtoockogceobfgaaRecInm
import Derived.Test.YtoockogceobfgaaBerGm
import Derived.Test.YtoockogceobfgaaFrame
import Derived.Test.YtoockogceobfgaaRows
import Derived.Deep.CutBlock
import Derived.Deep.DeepCutAuto
namespace Go.Proofs.Ytoockogceobfgaa
open Go.RowKit Go.WideShapes Go.ChangeShapes Go.Deep
set_option maxRecDepth 100000

structure Att where
  typ : List UInt8
  vals : List (List UInt8)
instance : Inhabited Att := ⟨⟨[], []⟩⟩
structure Ent where
  dn : List Av
  ats : List Att
def wV (vs : List (List UInt8)) : Nat := (vs.map fun v => 1 + v.length).sum
def wD (d : List Av) : Nat := (d.map fun a => 1 + a.1.length + a.2.length).sum
def wA (l : List Att) : Nat := (l.map fun a => 1 + a.typ.length + wV a.vals).sum
def wE (e : Ent) : Nat := wD e.dn + wA e.ats
theorem wV_ge : ∀ (vs : List (List UInt8)), vs.length ≤ wV vs
  | [] => Nat.le_refl _
  | v :: vs => by have := wV_ge vs; have e : wV (v :: vs) = 1 + v.length + wV vs := rfl; rw [e, List.length_cons]; omega
theorem wD_ge : ∀ (vs : List Av), vs.length ≤ wD vs
  | [] => Nat.le_refl _
  | v :: vs => by have := wD_ge vs; have e : wD (v :: vs) = 1 + v.1.length + v.2.length + wD vs := rfl; rw [e, List.length_cons]; omega
theorem wA_ge : ∀ (vs : List Att), vs.length ≤ wA vs
  | [] => Nat.le_refl _
  | v :: vs => by have := wA_ge vs; have e : wA (v :: vs) = 1 + v.typ.length + wV v.vals + wA vs := rfl; rw [e, List.length_cons]; omega
instance : Inhabited Att := ⟨⟨[], []⟩⟩

abbrev AtV : Type := List UInt8 × Value
abbrev atc (x : AtV) : List Value := [sv x.1, x.2]
theorem atc_len (x : AtV) : (atc x).length = 2 := rfl
theorem atc_ok {t : List UInt8} {A : Option Addr} {n c : Nat} : ∀ u ∈ atc (t, .slice A n c), u.oneCell' = true := by
  intro u hu
  simp only [atc, List.mem_cons, List.not_mem_nil, or_false] at hu
  rcases hu with rfl | rfl <;> rfl
theorem tySE : SliceTy Try.prog 53 9 (.string ⟨#[]⟩) 16 := ⟨Try.underlying53, by kernel_rfl, rfl, by omega⟩
abbrev AllE : Nat → Prop := fun _ => True
/-- A slice that reads as these attributes. -/
def Ats (w : World) (v : Value) (L : List Att) : Prop :=
  ∃ rs : List AtV, Rc atc 2 w AllE v rs ∧ rs.length = L.length ∧ ∀ (k : Nat) (r : AtV) (a : Att), rs[k]? = some r → L[k]? = some a → r.1 = a.typ ∧ Ss w AllE r.2 a.vals
theorem Ats.ext {w w' : World} {v : Value} {L : List Att} (h : Ats w v L) (hm : Ext w w') : Ats w' v L := by
  obtain ⟨rs, h1, h2, h3⟩ := h
  exact ⟨rs, h1.ext hm, h2, fun k r a hr ha => ⟨(h3 k r a hr ha).1, (h3 k r a hr ha).2.ext hm⟩⟩
theorem Ats.nil (w : World) : Ats w (.slice none 0 0) [] := ⟨[], (OwnR.nil atc 2 w 0).rc.mono (fun _ _ _ => trivial), rfl, fun k r a hr => by simp at hr⟩
theorem Ats.open_ {w : World} {v : Value} {L : List Att} (h : Ats w v L) : ∃ A c, v = .slice A L.length c ∧ ∀ (i : Nat) (hi : i < L.length), ∃ ad y, A = some ad ∧ w.cell? (ad.add (i * 2)) = some (sv L[i].typ) ∧ w.cell? ⟨(ad.add (i * 2)).block, (ad.add (i * 2)).off + 1, none⟩ = some y ∧ Ss w AllE y L[i].vals := by
  obtain ⟨rs, h1, h2, h3⟩ := h
  obtain ⟨A, c, rfl, _, _, _, h4⟩ := h1.open_ atc_len
  refine ⟨A, c, by rw [h2], fun i hi => ?_⟩
  obtain ⟨ad, e1, _, c0⟩ := h4 i 0 _ (by omega) (by omega) rfl
  obtain ⟨ad', e1', _, c1⟩ := h4 i 1 _ (by omega) (by omega) rfl
  rw [e1] at e1'
  injection e1' with e1'
  subst e1'
  obtain ⟨k1, k2⟩ := h3 i rs[i] L[i] (by simp [h2, hi]) (by simp [hi])
  rw [Nat.add_zero] at c0
  rw [add_next _ _ _ (by omega)] at c1
  exact ⟨ad, rs[i].2, e1, by rw [← k1]; exact c0, c1, k2⟩

theorem wD_mem : ∀ {L : List Av} {a : Av}, a ∈ L → a.1.length + a.2.length ≤ wD L
  | [], _, h => by cases h
  | b :: L, a, h => by
    have e : wD (b :: L) = 1 + b.1.length + b.2.length + wD L := rfl
    rcases List.mem_cons.1 h with h | h
    · subst h; omega
    · have := wD_mem h; omega
theorem wV_mem : ∀ {L : List (List UInt8)} {a : List UInt8}, a ∈ L → a.length + 1 ≤ wV L
  | [], _, h => by cases h
  | b :: L, a, h => by
    have e : wV (b :: L) = 1 + b.length + wV L := rfl
    rcases List.mem_cons.1 h with h | h
    · subst h; omega
    · have := wV_mem h; omega
theorem wA_mem : ∀ {L : List Att} {a : Att}, a ∈ L → 1 + a.typ.length + wV a.vals ≤ wA L
  | [], _, h => by cases h
  | b :: L, a, h => by
    have e : wA (b :: L) = 1 + b.typ.length + wV b.vals + wA L := rfl
    rcases List.mem_cons.1 h with h | h
    · subst h; omega
    · have := wA_mem h; omega

theorem ext_cell {w w' : World} (x : Ext w w') {p : Addr} {u : Value} (h : w.cell? p = some u) : w'.cell? p = some u := (x.cell (lt_of_cell h) (fun h => h)).trans h

/-- What lies within reach. -/
structure EFits (e : Ent) : Prop where
  dn : Fits e.dn
  len : e.ats.length * 40 ≤ 140737488351232
  els : ∀ a ∈ e.ats, a.typ.length ≤ 140737488351232 ∧ a.vals.length * 16 ≤ 140737488351232 ∧ ∀ v ∈ a.vals, v.length ≤ 140737488351232

theorem take_step {α : Type} {L M : List α} {k : Nat} (h1 : k < L.length) (h2 : k < M.length) (h : L.take k = M.take k) : L.take (k + 1) = M.take (k + 1) ↔ L[k] = M[k] := by
  rw [List.take_succ_eq_append_getElem h1, List.take_succ_eq_append_getElem h2, h]
  exact ⟨fun h => List.singleton_inj.1 (List.append_cancel_left h), fun h => by rw [h]⟩
theorem take_ne {α : Type} {L M : List α} {k : Nat} (h1 : k < L.length) (h2 : k < M.length) (h : L[k] ≠ M[k]) : L ≠ M := fun e => h (by subst e; rfl)
theorem take_all_eq {α : Type} {L M : List α} {k : Nat} (h1 : k = L.length) (h2 : L.length = M.length) (h : L.take k = M.take k) : L = M := by
  rwa [List.take_of_length_le (by omega), List.take_of_length_le (by omega)] at h
theorem Blk.two (w : World) (A B : Array Value) (s t : TypeId) : Blk ((w.alloc (.cells A s)).alloc (.cells B t)).drew w.heap.size s A ∧ Blk ((w.alloc (.cells A s)).alloc (.cells B t)).drew (w.heap.size + 1) t B ∧ Ext w ((w.alloc (.cells A s)).alloc (.cells B t)).drew := by
  refine ⟨(Blk.new w _ _).mod (F := fun _ => False) (((Mod.refl _ _).alloc _).drew) (fun h => h), ?_, (((Mod.refl _ w).alloc _).alloc _).drew⟩
  have h := Blk.new (w.alloc (.cells A s)) t B
  have hs : (w.alloc (.cells A s)).heap.size = w.heap.size + 1 := by simp
  rw [hs] at h
  exact h.mod (F := fun _ => False) ((Mod.refl _ _).drew) (fun h => h)

theorem w64_lo (x : Int) : -9223372036854775808 ≤ wrap64 x ∧ wrap64 x ≤ 9223372036854775807 := by unfold wrap64; omega
theorem w64_id {x : Int} (h : -9223372036854775808 ≤ x) (h' : x ≤ 9223372036854775807) : wrap64 x = x := by unfold wrap64; omega
section
variable {α : Type} (f : α → Nat)
def sumF (L : List α) : Nat := (L.map f).sum
theorem sumF_next (L : List α) {k : Nat} (h : k < L.length) : sumF f (L.take (k + 1)) = sumF f (L.take k) + f L[k] := by
  unfold sumF
  rw [List.take_succ_eq_append_getElem h, List.map_append, List.sum_append]
  simp
theorem sumF_take : ∀ (L : List α) (k : Nat), sumF f (L.take k) ≤ sumF f L
  | [], k => by simp
  | a :: L, 0 => Nat.zero_le _
  | a :: L, k + 1 => by
    have := sumF_take L k
    show f a + sumF f (L.take k) ≤ f a + sumF f L
    omega
theorem sumF_all (L : List α) {k : Nat} (h : L.length ≤ k) : sumF f (L.take k) = sumF f L := by rw [List.take_of_length_le h]
theorem sumF_z (L : List α) : sumF f (L.take 0) = 0 := rfl
end
abbrev aW (a : Av) : Nat := 1 + a.1.length + a.2.length
abbrev vW (v : List UInt8) : Nat := 1 + v.length
abbrev atW (a : Att) : Nat := 1 + a.typ.length + wV a.vals
theorem wD_sum (l : List Av) : wD l = sumF aW l := rfl
theorem wV_sum (l : List (List UInt8)) : wV l = sumF vW l := rfl
theorem wA_sum (l : List Att) : wA l = sumF atW l := rfl
abbrev EnV : Type := Value × Value
abbrev enc2 (x : EnV) : List Value := [x.1, x.2]
theorem enc2_len (x : EnV) : (enc2 x).length = 2 := rfl
/-- A slice that reads as these entries. -/
def Ents (w : World) (v : Value) (L : List Ent) : Prop := ∃ C : List EnV, Rc enc2 2 w AllE v C ∧ C.length = L.length ∧ ∀ (k : Nat) (x : EnV) (e : Ent), C[k]? = some x → L[k]? = some e → As w AllE x.1 e.dn ∧ Ats w x.2 e.ats
theorem Ents.ext {w w' : World} {v : Value} {L : List Ent} (h : Ents w v L) (x : Ext w w') : Ents w' v L := by
  obtain ⟨C, h1, h2, h3⟩ := h
  exact ⟨C, h1.ext x, h2, fun k y e hy he => ⟨(h3 k y e hy he).1.ext x, (h3 k y e hy he).2.ext x⟩⟩
theorem Ents.open_ {w : World} {v : Value} {L : List Ent} (h : Ents w v L) : ∃ A c, v = .slice A L.length c ∧ ∀ (i : Nat) (hi : i < L.length), ∃ ad y z, A = some ad ∧ w.cell? (ad.add (i * 2)) = some y ∧ w.cell? ⟨(ad.add (i * 2)).block, (ad.add (i * 2)).off + 1, none⟩ = some z ∧ As w AllE y L[i].dn ∧ Ats w z L[i].ats := by
  obtain ⟨C, h1, h2, h3⟩ := h
  obtain ⟨A, c, rfl, _, _, _, h4⟩ := h1.open_ enc2_len
  refine ⟨A, c, by rw [h2], fun i hi => ?_⟩
  obtain ⟨ad, e1, _, c0⟩ := h4 i 0 _ (by omega) (by omega) rfl
  obtain ⟨ad', e1', _, c1⟩ := h4 i 1 _ (by omega) (by omega) rfl
  rw [e1] at e1'
  injection e1' with e1'
  subst e1'
  obtain ⟨k1, k2⟩ := h3 i C[i] L[i] (by simp [h2, hi]) (by simp [hi])
  rw [Nat.add_zero] at c0
  rw [add_next _ _ _ (by omega)] at c1
  exact ⟨ad, C[i].1, C[i].2, e1, c0, c1, k1, k2⟩
/-- What great answers: where the sum lies within an int, whether it is above 4000. -/
def GreatR (T : Nat) (e : Ending) : Prop := ∃ r, e = .returned (.bool r) ∧ (T ≤ 4611686018427387904 → r = decide (4000 < T))
theorem GreatR.of {T : Nat} {r : Bool} (h : T ≤ 4611686018427387904 → r = decide (4000 < T)) : GreatR T (.returned (.bool r)) := ⟨r, rfl, h⟩
section
variable {H : Type} {enc : TypeId × Value → H} {P : Program} {W : World} {base : Nat} {spare : Nat → Bool} {held : Bool} {t e : TypeId} {v : Value} {d : DataW H} {p : List MemPlace}
theorem strs_sum : ∀ (l : List ByteArray), wV (l.map fun s => s.data.toList) ≤ Rows.uptoBulkAll (Go.ChangeShapes.strs l : List (DataW H))
  | [] => Nat.zero_le _
  | s :: l => by
    have h := strs_sum l
    have e : wV ((s :: l).map fun s => s.data.toList) = 1 + s.data.toList.length + wV (l.map fun s => s.data.toList) := rfl
    have e2 : (Go.ChangeShapes.strs (s :: l) : List (DataW H)) = .lit (.string s.data.toList) :: Go.ChangeShapes.strs l := rfl
    rw [e, e2]
    simp only [Rows.uptoBulkAll, Rows.uptoBulk]
    omega
theorem bulk_sum {α : Type} (wt : α → Nat) (q : Nat → α) (D : Nat → DataW H) : ∀ (l : List Nat), (∀ i ∈ l, wt (q i) ≤ Rows.uptoBulk (D i)) → ((l.map q).map wt).sum ≤ Rows.uptoBulkAll (l.map D)
  | [], _ => Nat.zero_le _
  | i :: l, h => by
    have h1 := bulk_sum wt q D l (fun j hj => h j (List.mem_cons_of_mem _ hj))
    have h2 := h i List.mem_cons_self
    simp only [List.map_cons, List.sum_cons, Rows.uptoBulkAll]
    omega
theorem strs_in_bulk {ts : List TypeId} {ds : List (DataW H)} {j : Nat} (ht : P.underlying t = some (.slice e)) (he : P.underlying e = some .string) (hc : P.cellsOf e = 1) (hby : P.bytesOf e = 16) (hv : ∃ a len cap, v = .slice a len cap) (h : DataW.Trod enc P W base spare held t v d p)
    (hsz : (DataW.weightsEach P ts ds).all (· ≤ reachBytes) = true) (htj : ts[j]? = some t) (hj : ds[j]? = some d) :
    ∃ L : List (List UInt8), Ss W (fun _ => True) v L ∧ (∀ l ∈ L, l.length ≤ 140737488351232) ∧ L.length * 16 ≤ 140737488351232 ∧ wV L ≤ Rows.uptoBulk d := by
  obtain ⟨a0, len0, cap0, rfl⟩ := hv
  obtain ⟨fuel, hf⟩ := h
  rcases Go.ChangeShapes.open_strings ht he hc hf with ⟨hcs, _⟩ | ⟨x, l, c, ss, hcs, _, hl, hm, hz, hx, hcell, hwz⟩
  · simp [Value.cells] at hcs
    obtain ⟨rfl, rfl, rfl⟩ := hcs
    exact ⟨[], Sl.nil _ _, (fun l hl => by cases hl), by simp, Nat.zero_le _⟩
  · simp [Value.cells] at hcs
    obtain ⟨rfl, rfl, rfl⟩ := hcs
    have hzl : len0 ≤ ss.length := by split at hz <;> omega
    injection hx with hd _
    subst hd
    have hs1 := sized_slice hsz htj hj ht
    rw [hby] at hs1
    simp only [Go.ChangeShapes.strs, List.length_map, List.length_take, List.length_drop, reachBytes] at hs1
    refine ⟨(ss.take len0).map fun s => s.data.toList, ⟨x |> some, cap0, by simp; omega, by simp; omega, hm, by simp, fun k u hu => ⟨x, rfl, trivial, ?_⟩⟩, fun l hl => ?_, by rw [List.length_map, List.length_take]; omega, by simp only [Rows.uptoBulk]; have := strs_sum (H := H) (ss.take len0); omega⟩
    · rw [List.getElem?_map, List.getElem?_map, List.getElem?_take] at hu
      split at hu
      · rename_i hk
        have hk2 : k < ss.length := by omega
        rw [List.getElem?_eq_getElem hk2] at hu
        simp only [Option.map_some, Option.some.injEq] at hu
        have h2 := hcell k hk2
        rw [List.getD_eq_getElem?_getD, List.getElem?_eq_getElem hk2, Option.getD_some] at h2
        rw [h2, ← hu, sv_of]
      · simp at hu
    · obtain ⟨s, hs, rfl⟩ := List.mem_map.1 hl
      have hmem : (DataW.lit (.string s.data.toList) : DataW H) ∈ (Go.ChangeShapes.strs (ss.take len0) : List (DataW H)) := List.mem_map.2 ⟨s, hs, rfl⟩
      have hw : s.data.toList.length ∈ DataW.weightsAll P e (Go.ChangeShapes.strs (ss.take len0) : List (DataW H)) := mem_weightsAll hmem (by simp [DataW.weights])
      have := List.all_eq_true.1 hsz _ (DataW.weights_mem_each htj hj s.data.toList.length (by simp only [DataW.weights, ht]; exact List.mem_cons_of_mem _ (List.mem_append_left _ hw)))
      exact of_decide_eq_true this
theorem recs_in_bulk {α : Type} [Inhabited α] (f : α → List Value) {k bts : Nat} (hf : ∀ a, (f a).length = k) (R : α → Prop) (wt : α → Nat) (ht : P.underlying t = some (.slice e)) (ce : P.cellsOf e = k) (hby : P.bytesOf e = bts)
    (each : ∀ cs x n, DataW.trod enc P W base spare held n e cs = some x → Light P e x.1 → ∃ a, cs = f a ∧ R a ∧ wt a ≤ Rows.uptoBulk x.1) (hv : ∃ a len cap, v = .slice a len cap) (h : DataW.Trod enc P W base spare held t v d p) (hl : Light P t d) :
    ∃ L, Rc f k W (fun _ => True) v L ∧ (∀ a ∈ L, R a) ∧ L.length * bts ≤ 140737488351232 ∧ (L.map wt).sum ≤ Rows.uptoBulk d := by
  obtain ⟨a0, len0, cap0, rfl⟩ := hv
  obtain ⟨fuel, hfu⟩ := h
  rcases open_slice ht hfu with ⟨hcs, _⟩ | ⟨a, len, cap, m, n, D, Pl, hcs, _, hlc, hm, hmm, hx, hcell⟩
  · simp [Value.cells] at hcs
    obtain ⟨rfl, rfl, rfl⟩ := hcs
    exact ⟨[], Rc.nil _ _ _ _, (fun l hl => by cases hl), by simp, Nat.zero_le _⟩
  · simp [Value.cells] at hcs
    obtain ⟨rfl, rfl, rfl⟩ := hcs
    have hlm : len0 ≤ m := by rw [hmm]; split <;> omega
    injection hx with hd _
    subst hd
    have every : ∀ i, i < len0 → ∃ b, (W.cells? base (a.add (i * P.cellsOf e)) (P.cellsOf e) = some (f b)) ∧ R b ∧ wt b ≤ Rows.uptoBulk (D i) := by
      intro i hi
      obtain ⟨cs', h1, h2⟩ := hcell i (by omega)
      obtain ⟨b, hb, hR, hB⟩ := each cs' _ _ h2 (hl.elem ht (List.mem_map.2 ⟨i, List.mem_range.2 hi, rfl⟩))
      exact ⟨b, by rw [h1, hb], hR, hB⟩
    obtain ⟨q, hq⟩ := choose_lt every
    refine ⟨(List.range len0).map q, ⟨some a, cap0, by simp, by simp; omega, hm, by simp, by rw [flat_len hf], fun j u hu => ⟨a, rfl, trivial, ?_⟩⟩, fun l hl => ?_, ?_, ?_⟩
    · have hk : j < len0 * k := by
        have := (List.getElem?_eq_some_iff.1 hu).1
        rw [flat_len hf] at this
        simpa using this
      have hk0 : 0 < k := by
        rcases Nat.eq_zero_or_pos k with h0 | h0
        · rw [h0] at hk; omega
        · exact h0
      obtain ⟨i, b, hb, rfl⟩ : ∃ i b, b < k ∧ j = i * k + b := ⟨j / k, j % k, Nat.mod_lt _ hk0, by rw [Nat.mul_comm]; exact (Nat.div_add_mod j k).symm⟩
      have hi : i < len0 := by
        rcases Nat.lt_or_ge i len0 with h | h
        · exact h
        · have := Nat.mul_le_mul_right k h; omega
      rw [flat_at hf _ i b (by simpa using hi) hb] at hu
      simp only [List.getElem_map, List.getElem_range] at hu
      obtain ⟨h1, _, _⟩ := hq i hi
      obtain ⟨_, _, h3⟩ := World.cells?_some h1
      have := h3 b (by rw [ce]; exact hb)
      rw [hu, add_of_add, ce] at this
      exact this
    · obtain ⟨i, hi, rfl⟩ := List.mem_map.1 hl
      exact (hq i (List.mem_range.1 hi)).2.1
    · have := hl.len ht
      rw [hby] at this
      simpa using this
    · simp only [Rows.uptoBulk]
      have := bulk_sum wt q D (List.range len0) (fun i hi => (hq i (List.mem_range.1 hi)).2.2)
      omega
theorem ava_each_bulk {f0 f1 : Field} (he : P.underlying e = some (.struct #[f0, f1])) (ce : P.cellsOf e = 2) (o0 : f0.offset = 0) (o1 : f1.offset = 1) (c0 : P.cellsOf f0.type = 1) (c1 : P.cellsOf f1.type = 1)
    (s0 : P.underlying f0.type = some .string) (s1 : P.underlying f1.type = some .string) (cs : List Value) (x : DataW H × List MemPlace) (n : Nat) (h : DataW.trod enc P W base spare held n e cs = some x) (hl : Light P e x.1) :
    ∃ a : List UInt8 × List UInt8, cs = avc a ∧ (a.1.length ≤ 140737488351232 ∧ a.2.length ≤ 140737488351232) ∧ aW a ≤ Rows.uptoBulk x.1 := by
  obtain ⟨xs, m, _, rfl, hlen, hxl, hfi⟩ := DataW.trod_struct he h
  match xs, hxl, cs, hlen.trans ce with
  | [y0, y1], _, [v0, v1], _ =>
    have g0 := hfi 0 f0 rfl
    have g1 := hfi 1 f1 rfl
    simp [o0, o1, c0, c1] at g0 g1
    obtain ⟨x0, q0, z0, _⟩ := DataW.trod_string s0 g0
    obtain ⟨x1, q1, z1, _⟩ := DataW.trod_string s1 g1
    injection q0 with q0
    injection q1 with q1
    have l0 := Light.part (j := 0) he hl rfl rfl
    have l1 := Light.part (j := 1) he hl rfl rfl
    rw [z0] at l0
    rw [z1] at l1
    exact ⟨(x0.data.toList, x1.data.toList), by rw [q0, q1, sv_of x0, sv_of x1], ⟨l0.str, l1.str⟩, by rw [z0, z1]; simp only [List.map_cons, List.map_nil, Rows.uptoBulk, Rows.uptoBulkAll, aW]; omega⟩
end
section
variable {H : Type} {enc : TypeId × Value → H} {W : World} {base : Nat} {spare : Nat → Bool} {held : Bool} {v : Value} {d : DataW H} {p : List MemPlace}
theorem light_all {P : Program} {t : TypeId} (h : Light P t d) : (DataW.weightsEach P [t] [d]).all (· ≤ reachBytes) = true := by
  rw [List.all_eq_true]
  intro q hq
  have : q ∈ d.weights P t := by simpa [DataW.weightsEach] using hq
  have := h q this
  exact decide_eq_true (by simpa [reachBytes] using this)
abbrev AtC : Type := Att × Value
abbrev atcc (x : AtC) : List Value := [sv x.1.typ, x.2]
theorem atcc_len (x : AtC) : (atcc x).length = 2 := rfl
instance : Inhabited AtC := ⟨(⟨[], []⟩, .nilFunc)⟩
instance : Inhabited AtC := ⟨(⟨[], []⟩, .nilFunc)⟩
theorem strs_bulk {fuel : Nat} {x : Value} (h : DataW.trod enc Try.prog W base spare held fuel 53 [x] = some (d, p)) (hl : Light Try.prog 53 d) :
    ∃ L, Ss W (fun _ => True) x L ∧ L.length * 16 ≤ 140737488351232 ∧ (∀ l ∈ L, l.length ≤ 140737488351232) ∧ wV L ≤ Rows.uptoBulk d := by
  have hsl := slice_val Try.underlying53 h
  have hx1 : x.cells.toList = [x] := by obtain ⟨a, b, c, e⟩ := hsl; rw [e]; rfl
  obtain ⟨L, h1, h2, h3, h4⟩ := strs_in_bulk (ts := [53]) (ds := [d]) (j := 0) (v := x) (d := d) (p := p) Try.underlying53 Try.underlying9 (by kernel_rfl) (by kernel_rfl) hsl ⟨fuel, by rw [hx1]; exact h⟩ (light_all hl) rfl rfl
  exact ⟨L, h1, h3, h2, h4⟩
/-- What a law's second form asks, of the arguments one by one. -/
theorem bulk_each {ds : List (DataW H)} (h : Rows.uptoSmall H ds = true) {j : Nat} {x : DataW H} (hx : ds[j]? = some x) : Rows.uptoBulk x ≤ 1048576 := by
  have h1 : Rows.uptoBulkAll ds ≤ 1048576 := of_decide_eq_true h
  have h2 : ∀ (l : List (DataW H)) (y : DataW H), y ∈ l → Rows.uptoBulk y ≤ Rows.uptoBulkAll l := by
    intro l
    induction l with
    | nil => intro y hy; cases hy
    | cons z l ih =>
      intro y hy
      simp only [Rows.uptoBulkAll]
      rcases List.mem_cons.1 hy with hy | hy
      · subst hy; omega
      · have := ih y hy; omega
  exact Nat.le_trans (h2 _ _ (List.mem_of_getElem? hx)) h1
end
end Go.Proofs.Ytoockogceobfgaa
