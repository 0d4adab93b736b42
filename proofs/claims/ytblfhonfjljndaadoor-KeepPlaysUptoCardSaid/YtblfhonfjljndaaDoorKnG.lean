/- keep: steps that came in, within their bulk. -/
import Derived.Test.YtblfhonfjljndaaDoorKnE
import Derived.Test.YtblfhonfjljndaaDoorRows
namespace Go.Proofs.YtblfhonfjljndaaDoor
open Go.RowKit Go.Maps Go.WideMaps Go.WideShapes Go.ChangeShapes Go.Deep
set_option maxRecDepth 100000

section
variable {H : Type} {enc : TypeId × Value → H} {P : Program} {W : World} {base : Nat} {spare : Nat → Bool} {held : Bool} {t e : TypeId} {v : Value} {d : DataW H} {p : List MemPlace}
theorem bulk_len : ∀ l : List (DataW H), l.length ≤ Rows.uptoBulkAll l
  | [] => Nat.zero_le _
  | x :: l => by
    have h := bulk_len l
    have h1 : 1 ≤ Rows.uptoBulk x := by
      cases x with
      | lit q => cases q <;> simp [Rows.uptoBulk]
      | _ => simp [Rows.uptoBulk]
    simp only [Rows.uptoBulkAll, List.length_cons]
    omega
theorem bulk_mem : ∀ {l : List (DataW H)} {x : DataW H}, x ∈ l → Rows.uptoBulk x ≤ Rows.uptoBulkAll l
  | y :: l, x, h => by
    simp only [Rows.uptoBulkAll]
    rcases List.mem_cons.1 h with rfl | h
    · omega
    · have := bulk_mem h
      omega
theorem bs_bulk {fuel : Nat} {x : Value} (ht : P.underlying t = some (.slice e)) (he : P.underlying e = some (.int .u8)) (hc : P.cellsOf e = 1) (hby : P.bytesOf e = 1) (h : DataW.trod enc P W base spare held fuel t [x] = some (d, p)) (hl : Light P t d) :
    ∃ l, Bs W (fun _ => True) x l ∧ l.length ≤ 140737488351232 ∧ l.length ≤ Rows.uptoBulk d := by
  have hsl := slice_val ht h
  have hx1 : x.cells.toList = [x] := by obtain ⟨a, b, c, e⟩ := hsl; rw [e]; rfl
  obtain ⟨l, hb⟩ := bs_in (d := d) (p := p) ht he hc hsl ⟨fuel, by rw [hx1]; exact h⟩
  refine ⟨l, hb, ?_⟩
  obtain ⟨a0, len0, cap0, rfl⟩ := hsl
  have hlen : len0 = l.length := by
    obtain ⟨A, c, e, _⟩ := hb.open_
    injection e
  rcases open_ints ht he hc h with ⟨hcs, _⟩ | ⟨x, ln, c, zs, hcs, _, hl2, hm, hz, hx, _, _⟩
  · simp at hcs
    omega
  · simp at hcs
    obtain ⟨rfl, rfl, rfl⟩ := hcs
    have hzl : len0 ≤ zs.length := by split at hz <;> omega
    injection hx with hd _
    subst hd
    have := hl.len ht
    rw [hby] at this
    have h9 := bulk_len (H := H) (lits .u8 (zs.take len0))
    simp only [lits, List.length_map, List.length_take] at this h9
    refine ⟨by omega, ?_⟩
    simp only [Rows.uptoBulk, lits]
    omega
abbrev wVk (l : List (List UInt8)) : Nat := (l.map fun v => 1 + v.length).sum
theorem strs_sum : ∀ (l : List ByteArray), wVk (l.map fun s => s.data.toList) ≤ Rows.uptoBulkAll (Go.ChangeShapes.strs l : List (DataW H))
  | [] => Nat.zero_le _
  | s :: l => by
    have h := strs_sum l
    have e : wVk ((s :: l).map fun s => s.data.toList) = 1 + s.data.toList.length + wVk (l.map fun s => s.data.toList) := rfl
    have e2 : (Go.ChangeShapes.strs (s :: l) : List (DataW H)) = .lit (.string s.data.toList) :: Go.ChangeShapes.strs l := rfl
    rw [e, e2]
    simp only [Rows.uptoBulkAll, Rows.uptoBulk]
    omega
theorem bulk_sum {α : Type} (wt : α → Nat) (q : Nat → α) (D : Nat → DataW H) : ∀ (l : List Nat), (∀ i ∈ l, wt (q i) ≤ Rows.uptoBulk (D i)) → ((l.map q).map wt).sum ≤ Rows.uptoBulkAll (l.map D)
  | [], _ => Nat.zero_le _
  | i :: l, h => by
    have h1 := bulk_sum wt q D l (fun j hj => h j (List.mem_cons_of_mem _ hj))
    have h2 := h i List.mem_cons_self
    simp only [List.map_cons, List.sum_cons, Rows.uptoBulkAll]
    omega
theorem strs_in_bulk {ts : List TypeId} {ds : List (DataW H)} {j : Nat} (ht : P.underlying t = some (.slice e)) (he : P.underlying e = some .string) (hc : P.cellsOf e = 1) (hby : P.bytesOf e = 16) (hv : ∃ a len cap, v = .slice a len cap) (h : DataW.Trod enc P W base spare held t v d p)
    (hsz : (DataW.weightsEach P ts ds).all (· ≤ reachBytes) = true) (htj : ts[j]? = some t) (hj : ds[j]? = some d) :
    ∃ L : List (List UInt8), Ss W (fun _ => True) v L ∧ (∀ l ∈ L, l.length ≤ 140737488351232) ∧ L.length * 16 ≤ 140737488351232 ∧ wVk L ≤ Rows.uptoBulk d := by
  obtain ⟨a0, len0, cap0, rfl⟩ := hv
  obtain ⟨fuel, hf⟩ := h
  rcases Go.ChangeShapes.open_strings ht he hc hf with ⟨hcs, _⟩ | ⟨x, l, c, ss, hcs, _, hl, hm, hz, hx, hcell, hwz⟩
  · simp [Value.cells] at hcs
    obtain ⟨rfl, rfl, rfl⟩ := hcs
    exact ⟨[], Sl.nil _ _, (fun l hl => by cases hl), by simp, Nat.zero_le _⟩
  · simp [Value.cells] at hcs
    obtain ⟨rfl, rfl, rfl⟩ := hcs
    have hzl : len0 ≤ ss.length := by split at hz <;> omega
    injection hx with hd _
    subst hd
    have hs1 := sized_slice hsz htj hj ht
    rw [hby] at hs1
    simp only [Go.ChangeShapes.strs, List.length_map, List.length_take, List.length_drop, reachBytes] at hs1
    refine ⟨(ss.take len0).map fun s => s.data.toList, ⟨x |> some, cap0, by simp; omega, by simp; omega, hm, by simp, fun k u hu => ⟨x, rfl, trivial, ?_⟩⟩, fun l hl => ?_, by rw [List.length_map, List.length_take]; omega, by simp only [Rows.uptoBulk]; have := strs_sum (H := H) (ss.take len0); omega⟩
    · rw [List.getElem?_map, List.getElem?_map, List.getElem?_take] at hu
      split at hu
      · rename_i hk
        have hk2 : k < ss.length := by omega
        rw [List.getElem?_eq_getElem hk2] at hu
        simp only [Option.map_some, Option.some.injEq] at hu
        have h2 := hcell k hk2
        rw [List.getD_eq_getElem?_getD, List.getElem?_eq_getElem hk2, Option.getD_some] at h2
        rw [h2, ← hu, sv_of]
      · simp at hu
    · obtain ⟨s, hs, rfl⟩ := List.mem_map.1 hl
      have hmem : (DataW.lit (.string s.data.toList) : DataW H) ∈ (Go.ChangeShapes.strs (ss.take len0) : List (DataW H)) := List.mem_map.2 ⟨s, hs, rfl⟩
      have hw : s.data.toList.length ∈ DataW.weightsAll P e (Go.ChangeShapes.strs (ss.take len0) : List (DataW H)) := mem_weightsAll hmem (by simp [DataW.weights])
      have := List.all_eq_true.1 hsz _ (DataW.weights_mem_each htj hj s.data.toList.length (by simp only [DataW.weights, ht]; exact List.mem_cons_of_mem _ (List.mem_append_left _ hw)))
      exact of_decide_eq_true this
theorem recs_in_bulk {α : Type} [Inhabited α] (f : α → List Value) {k bts : Nat} (hf : ∀ a, (f a).length = k) (R : α → Prop) (wt : α → Nat) (ht : P.underlying t = some (.slice e)) (ce : P.cellsOf e = k) (hby : P.bytesOf e = bts)
    (each : ∀ cs x n, DataW.trod enc P W base spare held n e cs = some x → Light P e x.1 → ∃ a, cs = f a ∧ R a ∧ wt a ≤ Rows.uptoBulk x.1) (hv : ∃ a len cap, v = .slice a len cap) (h : DataW.Trod enc P W base spare held t v d p) (hl : Light P t d) :
    ∃ L, Rc f k W (fun _ => True) v L ∧ (∀ a ∈ L, R a) ∧ L.length * bts ≤ 140737488351232 ∧ (L.map wt).sum ≤ Rows.uptoBulk d := by
  obtain ⟨a0, len0, cap0, rfl⟩ := hv
  obtain ⟨fuel, hfu⟩ := h
  rcases open_slice ht hfu with ⟨hcs, _⟩ | ⟨a, len, cap, m, n, D, Pl, hcs, _, hlc, hm, hmm, hx, hcell⟩
  · simp [Value.cells] at hcs
    obtain ⟨rfl, rfl, rfl⟩ := hcs
    exact ⟨[], Rc.nil _ _ _ _, (fun l hl => by cases hl), by simp, Nat.zero_le _⟩
  · simp [Value.cells] at hcs
    obtain ⟨rfl, rfl, rfl⟩ := hcs
    have hlm : len0 ≤ m := by rw [hmm]; split <;> omega
    injection hx with hd _
    subst hd
    have every : ∀ i, i < len0 → ∃ b, (W.cells? base (a.add (i * P.cellsOf e)) (P.cellsOf e) = some (f b)) ∧ R b ∧ wt b ≤ Rows.uptoBulk (D i) := by
      intro i hi
      obtain ⟨cs', h1, h2⟩ := hcell i (by omega)
      obtain ⟨b, hb, hR, hB⟩ := each cs' _ _ h2 (hl.elem ht (List.mem_map.2 ⟨i, List.mem_range.2 hi, rfl⟩))
      exact ⟨b, by rw [h1, hb], hR, hB⟩
    obtain ⟨q, hq⟩ := choose_lt every
    refine ⟨(List.range len0).map q, ⟨some a, cap0, by simp, by simp; omega, hm, by simp, by rw [rflat_len hf], fun j u hu => ⟨a, rfl, trivial, ?_⟩⟩, fun l hl => ?_, ?_, ?_⟩
    · have hk : j < len0 * k := by
        have := (List.getElem?_eq_some_iff.1 hu).1
        rw [rflat_len hf] at this
        simpa using this
      have hk0 : 0 < k := by
        rcases Nat.eq_zero_or_pos k with h0 | h0
        · rw [h0] at hk; omega
        · exact h0
      obtain ⟨i, b, hb, rfl⟩ : ∃ i b, b < k ∧ j = i * k + b := ⟨j / k, j % k, Nat.mod_lt _ hk0, by rw [Nat.mul_comm]; exact (Nat.div_add_mod j k).symm⟩
      have hi : i < len0 := by
        rcases Nat.lt_or_ge i len0 with h | h
        · exact h
        · have := Nat.mul_le_mul_right k h; omega
      rw [rflat_at hf _ i b (by simpa using hi) hb] at hu
      simp only [List.getElem_map, List.getElem_range] at hu
      obtain ⟨h1, _, _⟩ := hq i hi
      obtain ⟨_, _, h3⟩ := World.cells?_some h1
      have := h3 b (by rw [ce]; exact hb)
      rw [hu, add_of_add, ce] at this
      exact this
    · obtain ⟨i, hi, rfl⟩ := List.mem_map.1 hl
      exact (hq i (List.mem_range.1 hi)).2.1
    · have := hl.len ht
      rw [hby] at this
      simpa using this
    · simp only [Rows.uptoBulk]
      have := bulk_sum wt q D (List.range len0) (fun i hi => (hq i (List.mem_range.1 hi)).2.2)
      omega
end
section
variable {H : Type} {enc : TypeId × Value → H} {W : World} {base : Nat} {spare : Nat → Bool} {held : Bool} {v : Value} {d : DataW H} {p : List MemPlace}
theorem wVk_len : ∀ l : List (List UInt8), l.length ≤ wVk l
  | [] => Nat.zero_le _
  | x :: l => by
    have := wVk_len l
    have e : wVk (x :: l) = 1 + x.length + wVk l := rfl
    rw [e, List.length_cons]; omega
theorem wVk_mem : ∀ {l : List (List UInt8)} {x : List UInt8}, x ∈ l → x.length ≤ wVk l
  | y :: l, x, h => by
    have e : wVk (y :: l) = 1 + y.length + wVk l := rfl
    rw [e]
    rcases List.mem_cons.1 h with rfl | h
    · omega
    · have := wVk_mem h
      omega
theorem strs_bulk {fuel : Nat} {x : Value} (h : DataW.trod enc Tryd.prog W base spare held fuel 33 [x] = some (d, p)) (hl : Light Tryd.prog 33 d) :
    ∃ L, Ts W (fun _ => True) x L ∧ L.length ≤ 140737488351232 ∧ (∀ l ∈ L, l.length ≤ 140737488351232) ∧ wVk L ≤ Rows.uptoBulk d := by
  have hsl := slice_val Tryd.underlying33 h
  have hx1 : x.cells.toList = [x] := by obtain ⟨a, b, c, e⟩ := hsl; rw [e]; rfl
  obtain ⟨L, h1, h2, h3, h4⟩ := strs_in_bulk (ts := [33]) (ds := [d]) (j := 0) (v := x) (d := d) (p := p) Tryd.underlying33 Tryd.underlying9 (by kernel_rfl) (by kernel_rfl) hsl ⟨fuel, by rw [hx1]; exact h⟩ (light_all hl) rfl rfl
  exact ⟨L, h1, by omega, h2, h4⟩
def wtK (c : Sk) : Nat := c.x.length + c.a.length + c.b.length + wVk c.s
theorem stepk_each_bulk (cs : List Value) (x : DataW H × List MemPlace) (n : Nat) (h : DataW.trod enc Tryd.prog W base spare held n 35 cs = some x) (hl : Light Tryd.prog 35 x.1) :
    ∃ c : Sk, cs = skl c ∧ SkOk W c ∧ wtK c ≤ Rows.uptoBulk x.1 := by
  obtain ⟨xs, m, _, rfl, hlen, hxl, hfi⟩ := DataW.trod_struct Tryd.underlying35 h
  have hc : Tryd.prog.cellsOf 35 = 6 := by kernel_rfl
  match xs, hxl, cs, hlen.trans hc with
  | [y0, y1, y2, y3, y4, y5], _, [v0, v1, v2, v3, v4, v5], _ =>
    have k1 : Tryd.prog.cellsOf 3 = 1 := by kernel_rfl
    have k4 : Tryd.prog.cellsOf 9 = 1 := by kernel_rfl
    have k5 : Tryd.prog.cellsOf 32 = 1 := by kernel_rfl
    have k6 : Tryd.prog.cellsOf 33 = 1 := by kernel_rfl
    have g0 : DataW.trod enc Tryd.prog W base spare held m 3 (([v0, v1, v2, v3, v4, v5].drop 0).take (Tryd.prog.cellsOf 3)) = some y0 := hfi 0 _ rfl
    rw [k1] at g0
    replace g0 : DataW.trod enc Tryd.prog W base spare held m 3 [v0] = some y0 := g0
    have g1 : DataW.trod enc Tryd.prog W base spare held m 3 (([v0, v1, v2, v3, v4, v5].drop 1).take (Tryd.prog.cellsOf 3)) = some y1 := hfi 1 _ rfl
    rw [k1] at g1
    replace g1 : DataW.trod enc Tryd.prog W base spare held m 3 [v1] = some y1 := g1
    have g2 : DataW.trod enc Tryd.prog W base spare held m 9 (([v0, v1, v2, v3, v4, v5].drop 2).take (Tryd.prog.cellsOf 9)) = some y2 := hfi 2 _ rfl
    rw [k4] at g2
    replace g2 : DataW.trod enc Tryd.prog W base spare held m 9 [v2] = some y2 := g2
    have g3 : DataW.trod enc Tryd.prog W base spare held m 32 (([v0, v1, v2, v3, v4, v5].drop 3).take (Tryd.prog.cellsOf 32)) = some y3 := hfi 3 _ rfl
    rw [k5] at g3
    replace g3 : DataW.trod enc Tryd.prog W base spare held m 32 [v3] = some y3 := g3
    have g4 : DataW.trod enc Tryd.prog W base spare held m 32 (([v0, v1, v2, v3, v4, v5].drop 4).take (Tryd.prog.cellsOf 32)) = some y4 := hfi 4 _ rfl
    rw [k5] at g4
    replace g4 : DataW.trod enc Tryd.prog W base spare held m 32 [v4] = some y4 := g4
    have g5 : DataW.trod enc Tryd.prog W base spare held m 33 (([v0, v1, v2, v3, v4, v5].drop 5).take (Tryd.prog.cellsOf 33)) = some y5 := hfi 5 _ rfl
    rw [k6] at g5
    replace g5 : DataW.trod enc Tryd.prog W base spare held m 33 [v5] = some y5 := g5
    obtain ⟨n0, q0, _, _⟩ := DataW.trod_int Tryd.underlying3 g0
    obtain ⟨n1, q1, _, w1⟩ := DataW.trod_int Tryd.underlying3 g1
    obtain ⟨x2, q2, z2, _⟩ := DataW.trod_string Tryd.underlying9 g2
    have l2 := Light.part (j := 2) Tryd.underlying35 hl rfl rfl
    have l3 := Light.part (j := 3) Tryd.underlying35 hl rfl rfl
    have l4 := Light.part (j := 4) Tryd.underlying35 hl rfl rfl
    have l5 := Light.part (j := 5) Tryd.underlying35 hl rfl rfl
    rw [z2] at l2
    obtain ⟨la, ha, hza, hba⟩ := bs_bulk (x := v3) Tryd.underlying32 Tryd.underlying5 (by kernel_rfl) (by kernel_rfl) (d := y3.1) (p := y3.2) g3 l3
    obtain ⟨lb, hb, hzb, hbb⟩ := bs_bulk (x := v4) Tryd.underlying32 Tryd.underlying5 (by kernel_rfl) (by kernel_rfl) (d := y4.1) (p := y4.2) g4 l4
    obtain ⟨ls, hs, hzs, hzt, hbs⟩ := strs_bulk (x := v5) (d := y5.1) (p := y5.2) g5 l5
    injection q0 with q0
    injection q1 with q1
    injection q2 with q2
    refine ⟨⟨n0, n1, x2.data.toList, la, lb, ls, v3, v4, v5⟩, by rw [q0, q1, q2, sv_of x2], ⟨⟨ha, hb, hs⟩, by simpa [Lit.wf, IntKind.bits, IntKind.signed, IntKind.min, IntKind.max] using w1, l2.str, hza, hzb, hzs, hzt⟩, ?_⟩
    simp only [List.map_cons, List.map_nil, z2, Rows.uptoBulk, Rows.uptoBulkAll, wtK]
    omega
theorem wtK_sum : ∀ {L : List Sk} {c : Sk}, c ∈ L → wtK c ≤ (L.map wtK).sum
  | y :: L, c, h => by
    rw [List.map_cons, List.sum_cons]
    rcases List.mem_cons.1 h with rfl | h
    · omega
    · have := wtK_sum h
      omega
theorem stepsk_in_bulk (h : DataW.Trod enc Tryd.prog W base spare held 22 v d p) (hv : ∃ a len cap, v = .slice a len cap) (hl : Light Tryd.prog 22 d) (hb : Rows.uptoBulk d ≤ 1048576) :
    ∃ C, Sks W (fun _ => True) v C ∧ (∀ c ∈ C, SkOk W c ∧ SkSm c) ∧ C.length ≤ 140737488351232 := by
  obtain ⟨C, h1, h2, h3, h4⟩ := recs_in_bulk skl skl_len (fun c => SkOk W c) wtK Tryd.underlying22 (by kernel_rfl) (bts := 104) (by kernel_rfl) stepk_each_bulk hv h hl
  refine ⟨C, h1, fun c hc => ⟨h2 c hc, ?_⟩, by omega⟩
  have h5 := wtK_sum hc
  have e : wtK c = c.x.length + c.a.length + c.b.length + wVk c.s := rfl
  have h6 := wVk_len c.s
  exact ⟨by omega, by omega, by omega, by omega, fun y hy => by have := wVk_mem hy; omega⟩
theorem bulk_each {ds : List (DataW H)} (h : Rows.uptoSmall H ds = true) {j : Nat} {x : DataW H} (hx : ds[j]? = some x) : Rows.uptoBulk x ≤ 1048576 := by
  have h1 : Rows.uptoBulkAll ds ≤ 1048576 := of_decide_eq_true h
  exact Nat.le_trans (bulk_mem (List.mem_of_getElem? hx)) h1
end
end Go.Proofs.YtblfhonfjljndaaDoor
