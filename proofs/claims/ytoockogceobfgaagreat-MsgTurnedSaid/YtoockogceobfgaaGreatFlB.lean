/- filters in memory; a filter read in. -/
import Derived.Test.YtoockogceobfgaaGreatEnxm
namespace Go.Proofs.YtoockogceobfgaaGreat
open Go.RowKit Go.WideShapes Go.ChangeShapes Go.Deep
set_option maxRecDepth 100000

/-- A filter. -/
inductive Fi where
  | mk (kind : Int) (typ val : List UInt8) (subs : List (List UInt8)) (kids : List Fi)
def Fi.kind : Fi → Int | .mk k _ _ _ _ => k
def Fi.typ : Fi → List UInt8 | .mk _ t _ _ _ => t
def Fi.val : Fi → List UInt8 | .mk _ _ v _ _ => v
def Fi.subs : Fi → List (List UInt8) | .mk _ _ _ s _ => s
def Fi.kids : Fi → List Fi | .mk _ _ _ _ k => k
instance : Inhabited Fi := ⟨.mk 0 [] [] [] []⟩
abbrev FiC : Type := Fi × Value × Value
abbrev fic (x : FiC) : List Value := [.int .i64 x.1.kind, sv x.1.typ, sv x.1.val, x.2.1, x.2.2]
theorem fic_len (x : FiC) : (fic x).length = 5 := rfl
/-- A filter's own lengths are small enough for memory. -/
structure FB (F : Fi) : Prop where
  kd : -9223372036854775808 ≤ F.kind ∧ F.kind ≤ 9223372036854775807
  ty : F.typ.length ≤ 140737488351232
  vl : F.val.length ≤ 140737488351232
  ss : F.subs.length * 16 ≤ 140737488351232
  sl : ∀ s ∈ F.subs, s.length ≤ 140737488351232
  kl : F.kids.length * 88 ≤ 140737488351232
/-- vs and vk are the rows of subs and kids of F, at most n deep. -/
def FilN : Nat → World → Fi → Value → Value → Prop
  | 0, _, _, _, _ => False
  | n + 1, w, F, vs, vk => FB F ∧ Ss w AllE vs F.subs ∧ ∃ C : List FiC, Rc fic 5 w AllE vk C ∧ C.map (·.1) = F.kids ∧ ∀ x ∈ C, FilN n w x.1 x.2.1 x.2.2
theorem FilN.ext : ∀ {n : Nat} {w w' : World} {F : Fi} {vs vk : Value}, FilN n w F vs vk → Ext w w' → FilN n w' F vs vk
  | 0, _, _, _, _, _, h, _ => h
  | _ + 1, _, _, _, _, _, ⟨h0, h1, C, h2, h3, h4⟩, x => ⟨h0, h1.ext x, C, h2.ext x, h3, fun y hy => (h4 y hy).ext x⟩
theorem FilN.more : ∀ {n m : Nat} {w : World} {F : Fi} {vs vk : Value}, FilN n w F vs vk → n ≤ m → FilN m w F vs vk
  | 0, _, _, _, _, _, h, _ => h.elim
  | _ + 1, 0, _, _, _, _, _, hm => absurd hm (by omega)
  | _ + 1, _ + 1, _, _, _, _, ⟨h0, h1, C, h2, h3, h4⟩, hm => ⟨h0, h1, C, h2, h3, fun y hy => (h4 y hy).more (by omega)⟩
/-- A filter's kids, one by one. -/
theorem FilN.open_ {n : Nat} {w : World} {F : Fi} {vs vk : Value} (h : FilN (n + 1) w F vs vk) : FB F ∧ (∃ A c, vs = .slice A F.subs.length c) ∧ Ss w AllE vs F.subs ∧ ∃ A c, vk = .slice A F.kids.length c ∧
    ∀ (i : Nat) (hi : i < F.kids.length), ∃ ad ys yk, A = some ad ∧ w.cell? (ad.add (i * 5)) = some (.int .i64 F.kids[i].kind) ∧ w.cell? ⟨(ad.add (i * 5)).block, (ad.add (i * 5)).off + 1, none⟩ = some (sv F.kids[i].typ) ∧
      w.cell? ⟨(ad.add (i * 5)).block, (ad.add (i * 5)).off + 2, none⟩ = some (sv F.kids[i].val) ∧ w.cell? ⟨(ad.add (i * 5)).block, (ad.add (i * 5)).off + 3, none⟩ = some ys ∧ w.cell? ⟨(ad.add (i * 5)).block, (ad.add (i * 5)).off + 4, none⟩ = some yk ∧ FilN n w F.kids[i] ys yk := by
  obtain ⟨h0, h1, C, h2, h3, h4⟩ := h
  obtain ⟨As, cs, es, -⟩ := h1.open_
  obtain ⟨A, c, rfl, _, _, _, h5⟩ := h2.open_ fic_len
  have hl : C.length = F.kids.length := by rw [← h3, List.length_map]
  refine ⟨h0, ⟨As, cs, es⟩, h1, A, c, by rw [hl], fun i hi => ?_⟩
  have hiC : i < C.length := by omega
  obtain ⟨ad, e0, _, c0⟩ := h5 i 0 _ hiC (by omega) rfl
  obtain ⟨ad1, e1, _, c1⟩ := h5 i 1 _ hiC (by omega) rfl
  obtain ⟨ad2, e2, _, c2⟩ := h5 i 2 _ hiC (by omega) rfl
  obtain ⟨ad3, e3, _, c3⟩ := h5 i 3 _ hiC (by omega) rfl
  obtain ⟨ad4, e4, _, c4⟩ := h5 i 4 _ hiC (by omega) rfl
  rw [e0] at e1 e2 e3 e4
  injection e1 with e1
  injection e2 with e2
  injection e3 with e3
  injection e4 with e4
  subst e1 e2 e3 e4
  have hk : F.kids[i] = C[i].1 := by
    have h6 : F.kids[i]? = (C.map (·.1))[i]? := by rw [h3]
    rw [List.getElem?_eq_getElem hi, List.getElem?_map, List.getElem?_eq_getElem hiC] at h6
    exact Option.some.inj h6
  rw [hk]
  rw [Nat.add_zero] at c0
  rw [add_next _ _ _ (by omega)] at c1 c2 c3 c4
  exact ⟨ad, C[i].2.1, C[i].2.2, e0, c0, c1, c2, c3, c4, h4 _ (List.getElem_mem hiC)⟩
theorem FilN.shape {n : Nat} {w : World} {F : Fi} {vs vk : Value} (h : FilN n w F vs vk) : (∃ A m c, vs = .slice A m c) ∧ ∃ A m c, vk = .slice A m c := by
  cases n with
  | zero => exact h.elim
  | succ n =>
    obtain ⟨-, ⟨A, c, e⟩, -, B, d, e2, -⟩ := h.open_
    exact ⟨⟨A, _, c, e⟩, B, _, d, e2⟩
/-- How much a filter is. -/
def wF : Nat → Fi → Nat
  | 0, _ => 0
  | n + 1, F => 5 + F.typ.length + F.val.length + wV F.subs + (F.kids.map (wF n)).sum
section
variable {H : Type} {enc : TypeId × Value → H} {P : Program} {W : World} {base : Nat} {spare : Nat → Bool} {held : Bool} {t e : TypeId} {v : Value} {d : DataW H} {p : List MemPlace}
theorem open_sliceF {t e : TypeId} {fuel : Nat} {cs : List Value} {x : DataW H × List MemPlace} (ht : P.underlying t = some (.slice e)) (h : DataW.trod enc P W base spare held fuel t cs = some x) :
    (cs = [.slice none 0 0] ∧ x = (.nil, [])) ∨
    ∃ (a : Addr) (len cap m n : Nat) (D : Nat → DataW H) (E : Nat → List MemPlace) (rest : List (DataW H)), n < fuel ∧ cs = [.slice (some a) len cap] ∧ len ≤ cap ∧ cap ≤ maxLen ∧ x.1 = .slice ((List.range len).map D) rest ∧ m = len ∧
      ∀ i, i < len → ∃ cs', W.cells? base (a.add (i * P.cellsOf e)) (P.cellsOf e) = some cs' ∧ DataW.trod enc P W base spare held n e cs' = some (D i, E i) := by
  rcases DataW.trod_slice ht h with h0 | ⟨a, len, cap, elems, rest, n, hn, rfl, rfl, hb, hl, hm, hlen, hel, -, -⟩
  · exact Or.inl h0
  right
  refine ⟨a, len, cap, _, n, fun i => (elems.getD i (.nil, [])).1, fun i => (elems.getD i (.nil, [])).2, rest.map (·.1), by omega, rfl, hl, hm, ?_, rfl, ?_⟩
  · show DataW.slice (elems.map (·.1)) (rest.map (·.1)) = _
    congr 1
    refine List.ext_getElem (by simp [hlen]) fun i h1 h2 => ?_
    simp at h1
    simp [List.getD, List.getElem?_eq_getElem h1]
  · intro i hi
    have key := hel i hi
    rw [List.getElem?_eq_getElem (by omega)] at key
    obtain ⟨cs', h1, h2⟩ := Option.bind_eq_some_iff.1 key
    refine ⟨cs', h1, ?_⟩
    rw [h2]
    simp [List.getD, List.getElem?_eq_getElem (show i < elems.length by omega)]
theorem recs_in_fuel {α : Type} [Inhabited α] (f : α → List Value) {k bts : Nat} (hf : ∀ a, (f a).length = k) (R : α → Prop) (wt : α → Nat) (ht : P.underlying t = some (.slice e)) (ce : P.cellsOf e = k) (hby : P.bytesOf e = bts) {fuel : Nat}
    (each : ∀ cs x n, n < fuel → DataW.trod enc P W base spare held n e cs = some x → Light P e x.1 → ∃ a, cs = f a ∧ R a ∧ wt a ≤ Rows.uptoBulk x.1) {x : DataW H × List MemPlace} (hfu : DataW.trod enc P W base spare held fuel t [v] = some x) (hl : Light P t x.1) :
    ∃ L, Rc f k W (fun _ => True) v L ∧ (∀ a ∈ L, R a) ∧ L.length * bts ≤ 140737488351232 ∧ (L.map wt).sum ≤ Rows.uptoBulk x.1 := by
  rcases open_sliceF ht hfu with ⟨hcs, _⟩ | ⟨a, len, cap, m, n, D, E, rest, hn, hcs, hlc, hm, hx, _, hcell⟩
  · injection hcs with hcs _
    subst hcs
    exact ⟨[], Rc.nil _ _ _ _, (fun l hl => by cases hl), by simp, Nat.zero_le _⟩
  · injection hcs with hcs _
    subst hcs
    rw [hx] at hl ⊢
    have every : ∀ i, i < len → ∃ b, (W.cells? base (a.add (i * P.cellsOf e)) (P.cellsOf e) = some (f b)) ∧ R b ∧ wt b ≤ Rows.uptoBulk (D i) := by
      intro i hi
      obtain ⟨cs', h1, h2⟩ := hcell i hi
      obtain ⟨b, hb, hR, hB⟩ := each cs' _ _ hn h2 (hl.elem ht (List.mem_map.2 ⟨i, List.mem_range.2 hi, rfl⟩))
      exact ⟨b, by rw [h1, hb], hR, hB⟩
    obtain ⟨q, hq⟩ := choose_lt every
    refine ⟨(List.range len).map q, ⟨some a, cap, by simp, by simp; omega, hm, by simp, by rw [flat_len hf], fun j u hu => ⟨a, rfl, trivial, ?_⟩⟩, fun l hl => ?_, ?_, ?_⟩
    · have hk : j < len * k := by
        have := (List.getElem?_eq_some_iff.1 hu).1
        rw [flat_len hf] at this
        simpa using this
      have hk0 : 0 < k := by
        rcases Nat.eq_zero_or_pos k with h0 | h0
        · rw [h0] at hk; omega
        · exact h0
      obtain ⟨i, b, hb, rfl⟩ : ∃ i b, b < k ∧ j = i * k + b := ⟨j / k, j % k, Nat.mod_lt _ hk0, by rw [Nat.mul_comm]; exact (Nat.div_add_mod j k).symm⟩
      have hi : i < len := by
        rcases Nat.lt_or_ge i len with h | h
        · exact h
        · have := Nat.mul_le_mul_right k h; omega
      rw [flat_at hf _ i b (by simpa using hi) hb] at hu
      simp only [List.getElem_map, List.getElem_range] at hu
      obtain ⟨h1, _, _⟩ := hq i hi
      obtain ⟨_, _, h3⟩ := World.cells?_some h1
      have := h3 b (by rw [ce]; exact hb)
      rw [hu, add_of_add, ce] at this
      exact this
    · obtain ⟨i, hi, rfl⟩ := List.mem_map.1 hl
      exact (hq i (List.mem_range.1 hi)).2.1
    · have := hl.len ht
      rw [hby] at this
      simpa using this
    · simp only [Rows.uptoBulk]
      have := bulk_sum wt q D (List.range len) (fun i hi => (hq i (List.mem_range.1 hi)).2.2)
      omega
end
section
variable {H : Type} {enc : TypeId × Value → H} {W : World} {base : Nat} {spare : Nat → Bool} {held : Bool} {v : Value} {d : DataW H} {p : List MemPlace}
theorem fil_each : ∀ (n : Nat) (cs : List Value) (x : DataW H × List MemPlace), DataW.trod enc Tryz.prog W base spare held n 26 cs = some x → Light Tryz.prog 26 x.1 → ∃ c : FiC, cs = fic c ∧ FilN n W c.1 c.2.1 c.2.2 ∧ 0 ≤ Rows.uptoBulk x.1 := by
  intro n
  induction n using Nat.strongRecOn with
  | ind n ih => ?_
  intro cs x h hl
  obtain ⟨xs, m, hm, rfl, hlen, hxl, hfi⟩ := DataW.trod_struct Tryz.underlying26 h
  have hc : Tryz.prog.cellsOf 26 = 5 := by kernel_rfl
  match xs, hxl, cs, hlen.trans hc with
  | [y0, y1, y2, y3, y4], _, [v0, v1, v2, v3, v4], _ =>
    have k0 : Tryz.prog.cellsOf 3 = 1 := by kernel_rfl
    have k1 : Tryz.prog.cellsOf 9 = 1 := by kernel_rfl
    have k3 : Tryz.prog.cellsOf 23 = 1 := by kernel_rfl
    have k4 : Tryz.prog.cellsOf 24 = 1 := by kernel_rfl
    have g0 : DataW.trod enc Tryz.prog W base spare held m 3 (([v0, v1, v2, v3, v4].drop 0).take (Tryz.prog.cellsOf 3)) = some y0 := hfi 0 _ rfl
    rw [k0] at g0
    replace g0 : DataW.trod enc Tryz.prog W base spare held m 3 [v0] = some y0 := g0
    have g1 : DataW.trod enc Tryz.prog W base spare held m 9 (([v0, v1, v2, v3, v4].drop 1).take (Tryz.prog.cellsOf 9)) = some y1 := hfi 1 _ rfl
    rw [k1] at g1
    replace g1 : DataW.trod enc Tryz.prog W base spare held m 9 [v1] = some y1 := g1
    have g2 : DataW.trod enc Tryz.prog W base spare held m 9 (([v0, v1, v2, v3, v4].drop 2).take (Tryz.prog.cellsOf 9)) = some y2 := hfi 2 _ rfl
    rw [k1] at g2
    replace g2 : DataW.trod enc Tryz.prog W base spare held m 9 [v2] = some y2 := g2
    have g3 : DataW.trod enc Tryz.prog W base spare held m 23 (([v0, v1, v2, v3, v4].drop 3).take (Tryz.prog.cellsOf 23)) = some y3 := hfi 3 _ rfl
    rw [k3] at g3
    replace g3 : DataW.trod enc Tryz.prog W base spare held m 23 [v3] = some y3 := g3
    have g4 : DataW.trod enc Tryz.prog W base spare held m 24 (([v0, v1, v2, v3, v4].drop 4).take (Tryz.prog.cellsOf 24)) = some y4 := hfi 4 _ rfl
    rw [k4] at g4
    replace g4 : DataW.trod enc Tryz.prog W base spare held m 24 [v4] = some y4 := g4
    obtain ⟨x1, q1, z1, _⟩ := DataW.trod_string Tryz.underlying9 g1
    obtain ⟨x2, q2, z2, _⟩ := DataW.trod_string Tryz.underlying9 g2
    have l1 := Light.part (j := 1) Tryz.underlying26 hl rfl rfl
    have l2 := Light.part (j := 2) Tryz.underlying26 hl rfl rfl
    have l3 := Light.part (j := 3) Tryz.underlying26 hl rfl rfl
    have l4 := Light.part (j := 4) Tryz.underlying26 hl rfl rfl
    rw [z1] at l1
    rw [z2] at l2
    obtain ⟨L3, a3, b3, c3, d3⟩ := strs_bulk g3 l3
    obtain ⟨C, a4, b4, c4, d4⟩ := recs_in_fuel fic fic_len (fun c => FilN (n - 1) W c.1 c.2.1 c.2.2) (fun _ => 0) Tryz.underlying24 hc (bts := 88) (by kernel_rfl) (fun cs x r hr hx hlx => by
      obtain ⟨c, e1, e2, e3⟩ := ih r (by omega) cs x hx hlx
      exact ⟨c, e1, e2.more (by omega), e3⟩) g4 l4
    obtain ⟨n0, q0, _, w0⟩ := DataW.trod_int Tryz.underlying3 g0
    injection q0 with q0
    injection q1 with q1
    injection q2 with q2
    have hC : C.map (·.1) = C.map (·.1) := rfl
    refine ⟨(.mk n0 x1.data.toList x2.data.toList L3 (C.map (·.1)), v3, v4), by rw [q0, q1, q2, sv_of x1, sv_of x2]; rfl, ?_, Nat.zero_le _⟩
    have hn : n = (n - 1) + 1 := by omega
    rw [hn]
    exact ⟨⟨by simpa [Fi.kind, Lit.wf, IntKind.bits, IntKind.signed, IntKind.min, IntKind.max] using w0, l1.str, l2.str, b3, c3, by show (C.map (·.1)).length * 88 ≤ _; rw [List.length_map]; exact c4⟩, a3, C, a4, rfl, b4⟩
theorem filter_in {r : Reach} {b0 : Nat} (h : DataW.Trod enc Tryz.prog W base spare held 26 v d p) (hv : Value.okWide Tryz.prog W r b0 26 v) (hl : Light Tryz.prog 26 d) :
    ∃ (n : Nat) (F : Fi) (vs vk : Value), v = .agg #[.int .i64 F.kind, sv F.typ, sv F.val, vs, vk] ∧ FilN (n + 1) W F vs vk := by
  obtain ⟨cs, rfl, hsz⟩ := okWide_struct Tryz.underlying26 hv
  obtain ⟨fuel, hf⟩ := h
  obtain ⟨⟨F, vs, vk⟩, h1, h2, _⟩ := fil_each _ _ _ hf hl
  match fuel, h2 with
  | n + 1, h2 =>
    have : cs = #[.int .i64 F.kind, sv F.typ, sv F.val, vs, vk] := by
      apply Array.toList_inj.1
      simpa [Value.cells] using h1
    exact ⟨n, F, vs, vk, by rw [this], h2⟩
end
end Go.Proofs.YtoockogceobfgaaGreat
namespace Go.Proofs.YtoockogceobfgaaGreat
open Go.RowKit
set_option maxRecDepth 100000

/-- These pieces may be. -/
def isSubs (L : List (List UInt8)) : Prop := 2 ≤ L.length ∧ L.length ≤ 16 ∧ (∀ i (h : i < L.length), L[i].length ≤ 256 ∧ (L[i] = [] → i = 0 ∨ i + 1 = L.length)) ∧ ∃ s ∈ L, s ≠ []
instance (L : List (List UInt8)) : Decidable (isSubs L) := by unfold isSubs; infer_instance
def oneN : Nat → Fi → Nat → Bool
  | 0, _, _ => false
  | n + 1, F, deep =>
    if 16 < deep then false
    else if F.kind = 0 ∨ F.kind = 1 ∨ F.kind = 2 then decide (F.typ = [] ∧ F.val = [] ∧ F.subs = [] ∧ 1 ≤ F.kids.length ∧ ¬ (F.kind = 2 ∧ 1 < F.kids.length)) && F.kids.all (oneN n · (deep + 1))
    else if F.kind = 3 ∨ F.kind = 5 ∨ F.kind = 6 then decide (isTyp F.typ ∧ F.val.length ≤ 256 ∧ F.subs = [] ∧ F.kids.length = 0)
    else if F.kind = 4 then decide (isTyp F.typ ∧ F.val = [] ∧ isSubs F.subs ∧ F.kids.length = 0)
    else if F.kind = 7 then decide (isTyp F.typ ∧ F.val = [] ∧ F.subs = [] ∧ F.kids.length = 0)
    else false
def nodesN : Nat → Fi → Nat
  | 0, _ => 0
  | n + 1, F => 1 + (F.kids.map (nodesN n)).sum
theorem sum_next {α : Type} (f : α → Nat) (L : List α) {k : Nat} (h : k < L.length) : ((L.take (k + 1)).map f).sum = ((L.take k).map f).sum + f L[k] := by
  rw [List.take_succ_eq_append_getElem h, List.map_append, List.sum_append]
  simp
theorem sum_take {α : Type} (f : α → Nat) : ∀ (L : List α) (k : Nat), ((L.take k).map f).sum ≤ (L.map f).sum
  | [], k => by simp
  | a :: L, 0 => Nat.zero_le _
  | a :: L, k + 1 => by
    have := sum_take f L k
    simp only [List.take_succ_cons, List.map_cons, List.sum_cons]
    omega
theorem sum_mem {α : Type} (f : α → Nat) : ∀ (L : List α) (a : α), a ∈ L → f a ≤ (L.map f).sum
  | b :: L, a, h => by
    simp only [List.map_cons, List.sum_cons]
    rcases List.mem_cons.1 h with rfl | h
    · omega
    · have := sum_mem f L a h
      omega
theorem sum_le {α : Type} {f g : α → Nat} : ∀ (L : List α), (∀ a ∈ L, f a ≤ g a) → (L.map f).sum ≤ (L.map g).sum
  | [], _ => Nat.le_refl _
  | a :: L, h => by
    have h1 := sum_le L (fun b hb => h b (List.mem_cons_of_mem _ hb))
    have h2 := h a List.mem_cons_self
    simp only [List.map_cons, List.sum_cons]
    omega
theorem nodes_wF : ∀ (n : Nat) (F : Fi), nodesN n F ≤ wF n F
  | 0, _ => Nat.le_refl _
  | n + 1, F => by
    have := sum_le (f := nodesN n) (g := wF n) F.kids (fun a _ => nodes_wF n a)
    show 1 + (F.kids.map (nodesN n)).sum ≤ 5 + F.typ.length + F.val.length + wV F.subs + (F.kids.map (wF n)).sum
    omega
theorem nodes_pos (n : Nat) (F : Fi) : 1 ≤ nodesN (n + 1) F := Nat.le_add_right _ _
theorem all_next {α : Type} (p : α → Bool) (L : List α) {k : Nat} (h : k < L.length) : (L.take (k + 1)).all p = ((L.take k).all p && p L[k]) := by
  rw [List.take_succ_eq_append_getElem h, List.all_append]
  simp
theorem all_noF {α : Type} {p : α → Bool} {L : List α} {k : Nat} (h : k < L.length) (hp : p L[k] = false) : L.all p = false := by
  rw [List.all_eq_false]
  exact ⟨_, List.getElem_mem h, by rw [hp]; decide⟩
end Go.Proofs.YtoockogceobfgaaGreat
