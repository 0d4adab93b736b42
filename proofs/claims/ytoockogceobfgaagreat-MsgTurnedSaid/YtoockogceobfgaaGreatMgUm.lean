/- msg: a request read in, its texts within its bulk. -/
import Derived.Test.YtoockogceobfgaaGreatMgHb
import Derived.Test.YtoockogceobfgaaGreatEnxm
import Derived.Test.YtoockogceobfgaaGreatFlB
import Derived.Test.YtoockogceobfgaaGreatMfCm
namespace Go.Proofs.YtoockogceobfgaaGreat
open Go.RowKit Go.WideShapes Go.ChangeShapes Go.Deep
set_option maxRecDepth 100000

section
variable {H : Type} {enc : TypeId × Value → H} {W : World} {base : Nat} {spare : Nat → Bool} {held : Bool} {v : Value} {d : DataW H} {p : List MemPlace}
theorem attr_each_bulk (cs : List Value) (x : DataW H × List MemPlace) (n : Nat) (h : DataW.trod enc Tryz.prog W base spare held n 88 cs = some x) (hl : Light Tryz.prog 88 x.1) :
    ∃ c : AtC, cs = atcc c ∧ (Ss W AllE c.2 c.1.vals ∧ c.1.typ.length ≤ 140737488351232 ∧ c.1.vals.length * 16 ≤ 140737488351232 ∧ ∀ v ∈ c.1.vals, v.length ≤ 140737488351232) ∧ atW c.1 ≤ Rows.uptoBulk x.1 := by
  obtain ⟨xs, m, _, rfl, hlen, hxl, hfi⟩ := DataW.trod_struct Tryz.underlying88 h
  have hc : Tryz.prog.cellsOf 88 = 2 := by kernel_rfl
  match xs, hxl, cs, hlen.trans hc with
  | [y0, y1], _, [v0, v1], _ =>
    have k1 : Tryz.prog.cellsOf 9 = 1 := by kernel_rfl
    have k2 : Tryz.prog.cellsOf 23 = 1 := by kernel_rfl
    have g0 : DataW.trod enc Tryz.prog W base spare held m 9 (([v0, v1].drop 0).take (Tryz.prog.cellsOf 9)) = some y0 := hfi 0 _ rfl
    rw [k1] at g0
    replace g0 : DataW.trod enc Tryz.prog W base spare held m 9 [v0] = some y0 := g0
    have g1 : DataW.trod enc Tryz.prog W base spare held m 23 (([v0, v1].drop 1).take (Tryz.prog.cellsOf 23)) = some y1 := hfi 1 _ rfl
    rw [k2] at g1
    replace g1 : DataW.trod enc Tryz.prog W base spare held m 23 [v1] = some y1 := g1
    obtain ⟨x0, q0, z0, _⟩ := DataW.trod_string Tryz.underlying9 g0
    have l0 := Light.part (j := 0) Tryz.underlying88 hl rfl rfl
    have l1 := Light.part (j := 1) Tryz.underlying88 hl rfl rfl
    obtain ⟨L1, a1, f1, f2, f3⟩ := strs_bulk g1 l1
    rw [z0] at l0
    injection q0 with q0
    exact ⟨(⟨x0.data.toList, L1⟩, v1), by rw [q0, sv_of x0], ⟨a1, l0.str, f1, f2⟩, by rw [z0]; simp only [List.map_cons, List.map_nil, Rows.uptoBulk, Rows.uptoBulkAll, atW]; omega⟩
theorem attrs_in_bulk (h : DataW.Trod enc Tryz.prog W base spare held 28 v d p) (hv : ∃ a len cap, v = .slice a len cap) (hl : Light Tryz.prog 28 d) :
    ∃ L : List Att, Ats W v L ∧ wA L ≤ Rows.uptoBulk d ∧ L.length * 40 ≤ 140737488351232 ∧ ∀ a ∈ L, a.typ.length ≤ 140737488351232 ∧ a.vals.length * 16 ≤ 140737488351232 ∧ ∀ v ∈ a.vals, v.length ≤ 140737488351232 := by
  obtain ⟨C, h1, h2, h3, h4⟩ := recs_in_bulk atcc atcc_len (fun c => Ss W AllE c.2 c.1.vals ∧ c.1.typ.length ≤ 140737488351232 ∧ c.1.vals.length * 16 ≤ 140737488351232 ∧ ∀ v ∈ c.1.vals, v.length ≤ 140737488351232) (fun c => atW c.1) Tryz.underlying28 (by kernel_rfl) (bts := 40) (by kernel_rfl) attr_each_bulk hv h hl
  refine ⟨C.map (·.1), ⟨C.map fun c => (c.1.typ, c.2), ?_, by simp, fun k r a hr ha => ?_⟩, by show ((C.map (·.1)).map atW).sum ≤ _; rw [List.map_map]; exact h4, by simpa using h3, fun a ha => ?_⟩
  · have e : (C.map fun c => ((c.1.typ, c.2) : AtV)).flatMap atc = C.flatMap atcc := by rw [List.flatMap_map]
    unfold Rc at h1 ⊢
    rw [e, List.length_map]
    exact h1
  · rw [List.getElem?_map] at hr ha
    cases hk : C[k]? with
    | none => rw [hk] at hr; cases hr
    | some c =>
      rw [hk] at hr ha
      injection hr with hr
      injection ha with ha
      subst hr
      subst ha
      exact ⟨rfl, (h2 c (List.mem_of_getElem? hk)).1⟩
  · obtain ⟨c, hc, rfl⟩ := List.mem_map.1 ha
    exact (h2 c hc).2
theorem attrs_cell_bulk {v1 : Value} {z : DataW H × List MemPlace} {n : Nat} (h : DataW.trod enc Tryz.prog W base spare held n 28 [v1] = some z) (hl : Light Tryz.prog 28 z.1) : ∃ L : List Att, Ats W v1 L ∧ wA L ≤ Rows.uptoBulk z.1 ∧ L.length * 40 ≤ 140737488351232 ∧ ∀ a ∈ L, a.typ.length ≤ 140737488351232 ∧ a.vals.length * 16 ≤ 140737488351232 ∧ ∀ v ∈ a.vals, v.length ≤ 140737488351232 := by
  obtain ⟨a, l, c, rfl⟩ := slice_val Tryz.underlying28 h
  exact attrs_in_bulk (v := .slice a l c) (d := z.1) (p := z.2) ⟨n, by simpa [Value.cells] using h⟩ ⟨_, _, _, rfl⟩ hl
abbrev mW (m : Md) : Nat := 1 + m.typ.length + wV m.vals
def wM (l : List Md) : Nat := (l.map mW).sum
theorem wM_mem : ∀ {L : List Md} {a : Md}, a ∈ L → 1 + a.typ.length + wV a.vals ≤ wM L
  | [], _, h => by cases h
  | b :: L, a, h => by
    have e : wM (b :: L) = 1 + b.typ.length + wV b.vals + wM L := rfl
    rcases List.mem_cons.1 h with h | h
    · subst h; omega
    · have := wM_mem h; omega
abbrev MdC : Type := Md × Value
abbrev mdcc (x : MdC) : List Value := [.int .i64 x.1.kind, sv x.1.typ, x.2]
theorem mdcc_len (x : MdC) : (mdcc x).length = 3 := rfl
instance : Inhabited MdC := ⟨(⟨0, [], []⟩, .nilFunc)⟩
theorem mod_each_bulk (cs : List Value) (x : DataW H × List MemPlace) (n : Nat) (h : DataW.trod enc Tryz.prog W base spare held n 86 cs = some x) (hl : Light Tryz.prog 86 x.1) :
    ∃ c : MdC, cs = mdcc c ∧ (Ss W AllE c.2 c.1.vals ∧ (-9223372036854775808 ≤ c.1.kind ∧ c.1.kind ≤ 9223372036854775807) ∧ c.1.typ.length ≤ 140737488351232 ∧ ∀ v ∈ c.1.vals, v.length ≤ 140737488351232) ∧ mW c.1 ≤ Rows.uptoBulk x.1 := by
  obtain ⟨xs, m, _, rfl, hlen, hxl, hfi⟩ := DataW.trod_struct Tryz.underlying86 h
  have hc : Tryz.prog.cellsOf 86 = 3 := by kernel_rfl
  match xs, hxl, cs, hlen.trans hc with
  | [y0, y1, y2], _, [v0, v1, v2], _ =>
    have k0 : Tryz.prog.cellsOf 3 = 1 := by kernel_rfl
    have k1 : Tryz.prog.cellsOf 9 = 1 := by kernel_rfl
    have k2 : Tryz.prog.cellsOf 23 = 1 := by kernel_rfl
    have g0 : DataW.trod enc Tryz.prog W base spare held m 3 (([v0, v1, v2].drop 0).take (Tryz.prog.cellsOf 3)) = some y0 := hfi 0 _ rfl
    rw [k0] at g0
    replace g0 : DataW.trod enc Tryz.prog W base spare held m 3 [v0] = some y0 := g0
    have g1 : DataW.trod enc Tryz.prog W base spare held m 9 (([v0, v1, v2].drop 1).take (Tryz.prog.cellsOf 9)) = some y1 := hfi 1 _ rfl
    rw [k1] at g1
    replace g1 : DataW.trod enc Tryz.prog W base spare held m 9 [v1] = some y1 := g1
    have g2 : DataW.trod enc Tryz.prog W base spare held m 23 (([v0, v1, v2].drop 2).take (Tryz.prog.cellsOf 23)) = some y2 := hfi 2 _ rfl
    rw [k2] at g2
    replace g2 : DataW.trod enc Tryz.prog W base spare held m 23 [v2] = some y2 := g2
    obtain ⟨n0, q0, _, w0⟩ := DataW.trod_int Tryz.underlying3 g0
    obtain ⟨x1, q1, z1, _⟩ := DataW.trod_string Tryz.underlying9 g1
    have l2 := Light.part (j := 2) Tryz.underlying86 hl rfl rfl
    have l1 := Light.part (j := 1) Tryz.underlying86 hl rfl rfl
    rw [z1] at l1
    obtain ⟨L2, a2, f1, f2, f3⟩ := strs_bulk g2 l2
    injection q0 with q0
    injection q1 with q1
    exact ⟨(⟨n0, x1.data.toList, L2⟩, v2), by rw [q0, q1, sv_of x1], ⟨a2, by simpa [Lit.wf, IntKind.bits, IntKind.signed, IntKind.min, IntKind.max] using w0, l1.str, f2⟩, by rw [z1]; simp only [List.map_cons, List.map_nil, Rows.uptoBulk, Rows.uptoBulkAll, mW]; omega⟩
theorem mods_cell_bulk {v1 : Value} {z : DataW H × List MemPlace} {n : Nat} (h : DataW.trod enc Tryz.prog W base spare held n 27 [v1] = some z) (hl : Light Tryz.prog 27 z.1) :
    ∃ L : List Md, Mds W v1 L ∧ wM L ≤ Rows.uptoBulk z.1 ∧ ∀ m ∈ L, (-9223372036854775808 ≤ m.kind ∧ m.kind ≤ 9223372036854775807) ∧ m.typ.length ≤ 140737488351232 ∧ ∀ v ∈ m.vals, v.length ≤ 140737488351232 := by
  obtain ⟨a, l, c, rfl⟩ := slice_val Tryz.underlying27 h
  obtain ⟨C, h1, h2, h3, h4⟩ := recs_in_bulk mdcc mdcc_len (fun c => Ss W AllE c.2 c.1.vals ∧ (-9223372036854775808 ≤ c.1.kind ∧ c.1.kind ≤ 9223372036854775807) ∧ c.1.typ.length ≤ 140737488351232 ∧ ∀ v ∈ c.1.vals, v.length ≤ 140737488351232) (fun c => mW c.1) Tryz.underlying27 (by kernel_rfl) (bts := 48) (by kernel_rfl) mod_each_bulk (v := .slice a l c) (d := z.1) (p := z.2) ⟨_, _, _, rfl⟩ ⟨n, by simpa [Value.cells] using h⟩ hl
  refine ⟨C.map (·.1), ⟨C.map fun c => (c.1.kind, c.1.typ, c.2), ?_, by simp, fun k r a hr ha => ?_⟩, by show ((C.map (·.1)).map mW).sum ≤ _; rw [List.map_map]; exact h4, fun a ha => ?_⟩
  · have e : (C.map fun c => ((c.1.kind, c.1.typ, c.2) : MdV)).flatMap mdc = C.flatMap mdcc := by rw [List.flatMap_map]
    unfold Rc at h1 ⊢
    rw [e, List.length_map]
    exact h1
  · rw [List.getElem?_map] at hr ha
    cases hk : C[k]? with
    | none => rw [hk] at hr; cases hr
    | some c =>
      rw [hk] at hr ha
      injection hr with hr
      injection ha with ha
      subst hr
      subst ha
      exact ⟨rfl, rfl, (h2 c (List.mem_of_getElem? hk)).1⟩
  · obtain ⟨c, hc, rfl⟩ := List.mem_map.1 ha
    exact (h2 c hc).2
/-- The ints of a request are ints. -/
structure NFit (r : Rq) : Prop where
  num : -9223372036854775808 ≤ r.num ∧ r.num ≤ 9223372036854775807
  sc : -9223372036854775808 ≤ r.scope ∧ r.scope ≤ 9223372036854775807
  li : -9223372036854775808 ≤ r.limit ∧ r.limit ≤ 9223372036854775807
  wh : -9223372036854775808 ≤ r.which ∧ r.which ≤ 9223372036854775807
  md : ∀ m ∈ r.mods, -9223372036854775808 ≤ m.kind ∧ m.kind ≤ 9223372036854775807
set_option maxHeartbeats 4000000 in
theorem request_each (cs : List Value) (x : DataW H × List MemPlace) (n : Nat) (h : DataW.trod enc Tryz.prog W base spare held n 32 cs = some x) (hl : Light Tryz.prog 32 x.1) :
    ∃ (n : Nat) (q : Rq) (vs vk vW vM vA : Value), cs = [.int .i64 q.num, .int .i64 q.kind, sv q.dn, sv q.pass, .int .i64 q.scope, .int .i64 q.limit, .int .i64 q.fil.kind, sv q.fil.typ, sv q.fil.val, vs, vk, vW, vM, vA, sv q.rdn, .bool q.keep, .bool q.above, sv q.up, sv q.avt, sv q.avv, .int .i64 q.which] ∧ RqAt n W q vs vk vW vM vA ∧ NFit q ∧ LFit q := by
  obtain ⟨xs, m, _, rfl, hlen, hxl, hfi⟩ := DataW.trod_struct Tryz.underlying32 h
  have hc : Tryz.prog.cellsOf 32 = 21 := by kernel_rfl
  match xs, hxl, cs, hlen.trans hc with
  | [y0, y1, y2, y3, y4, y5, y6, y7, y8, y9, y10, y11, y12, y13, y14, y15], _, [v0, v1, v2, v3, v4, v5, v6, v7, v8, v9, v10, v11, v12, v13, v14, v15, v16, v17, v18, v19, v20], _ =>
    have k_int : Tryz.prog.cellsOf 3 = 1 := by kernel_rfl
    have k_string : Tryz.prog.cellsOf 9 = 1 := by kernel_rfl
    have k_bool : Tryz.prog.cellsOf 4 = 1 := by kernel_rfl
    have k_lstring : Tryz.prog.cellsOf 23 = 1 := by kernel_rfl
    have k_lapiMod : Tryz.prog.cellsOf 27 = 1 := by kernel_rfl
    have k_lapiAttr : Tryz.prog.cellsOf 28 = 1 := by kernel_rfl
    have k_fil : Tryz.prog.cellsOf 26 = 5 := by kernel_rfl
    have k_ava : Tryz.prog.cellsOf 30 = 2 := by kernel_rfl
    have g0 : DataW.trod enc Tryz.prog W base spare held m 3 (([v0, v1, v2, v3, v4, v5, v6, v7, v8, v9, v10, v11, v12, v13, v14, v15, v16, v17, v18, v19, v20].drop 0).take (Tryz.prog.cellsOf 3)) = some y0 := hfi 0 _ rfl
    rw [k_int] at g0
    replace g0 : DataW.trod enc Tryz.prog W base spare held m 3 [v0] = some y0 := g0
    have l0 := Light.part (j := 0) Tryz.underlying32 hl rfl rfl
    obtain ⟨n0, q0, _, w0⟩ := DataW.trod_int Tryz.underlying3 g0
    injection q0 with q0
    have i0 : -9223372036854775808 ≤ n0 ∧ n0 ≤ 9223372036854775807 := by simpa [Lit.wf, IntKind.bits, IntKind.signed, IntKind.min, IntKind.max] using w0
    have g1 : DataW.trod enc Tryz.prog W base spare held m 3 (([v0, v1, v2, v3, v4, v5, v6, v7, v8, v9, v10, v11, v12, v13, v14, v15, v16, v17, v18, v19, v20].drop 1).take (Tryz.prog.cellsOf 3)) = some y1 := hfi 1 _ rfl
    rw [k_int] at g1
    replace g1 : DataW.trod enc Tryz.prog W base spare held m 3 [v1] = some y1 := g1
    have l1 := Light.part (j := 1) Tryz.underlying32 hl rfl rfl
    obtain ⟨n1, q1, _, w1⟩ := DataW.trod_int Tryz.underlying3 g1
    injection q1 with q1
    have i1 : -9223372036854775808 ≤ n1 ∧ n1 ≤ 9223372036854775807 := by simpa [Lit.wf, IntKind.bits, IntKind.signed, IntKind.min, IntKind.max] using w1
    have g2 : DataW.trod enc Tryz.prog W base spare held m 9 (([v0, v1, v2, v3, v4, v5, v6, v7, v8, v9, v10, v11, v12, v13, v14, v15, v16, v17, v18, v19, v20].drop 2).take (Tryz.prog.cellsOf 9)) = some y2 := hfi 2 _ rfl
    rw [k_string] at g2
    replace g2 : DataW.trod enc Tryz.prog W base spare held m 9 [v2] = some y2 := g2
    have l2 := Light.part (j := 2) Tryz.underlying32 hl rfl rfl
    obtain ⟨x2, q2, z2, _⟩ := DataW.trod_string Tryz.underlying9 g2
    injection q2 with q2
    rw [z2] at l2
    have b2 := l2.str
    have g3 : DataW.trod enc Tryz.prog W base spare held m 9 (([v0, v1, v2, v3, v4, v5, v6, v7, v8, v9, v10, v11, v12, v13, v14, v15, v16, v17, v18, v19, v20].drop 3).take (Tryz.prog.cellsOf 9)) = some y3 := hfi 3 _ rfl
    rw [k_string] at g3
    replace g3 : DataW.trod enc Tryz.prog W base spare held m 9 [v3] = some y3 := g3
    have l3 := Light.part (j := 3) Tryz.underlying32 hl rfl rfl
    obtain ⟨x3, q3, z3, _⟩ := DataW.trod_string Tryz.underlying9 g3
    injection q3 with q3
    rw [z3] at l3
    have b3 := l3.str
    have g4 : DataW.trod enc Tryz.prog W base spare held m 3 (([v0, v1, v2, v3, v4, v5, v6, v7, v8, v9, v10, v11, v12, v13, v14, v15, v16, v17, v18, v19, v20].drop 4).take (Tryz.prog.cellsOf 3)) = some y4 := hfi 4 _ rfl
    rw [k_int] at g4
    replace g4 : DataW.trod enc Tryz.prog W base spare held m 3 [v4] = some y4 := g4
    have l4 := Light.part (j := 4) Tryz.underlying32 hl rfl rfl
    obtain ⟨n4, q4, _, w4⟩ := DataW.trod_int Tryz.underlying3 g4
    injection q4 with q4
    have i4 : -9223372036854775808 ≤ n4 ∧ n4 ≤ 9223372036854775807 := by simpa [Lit.wf, IntKind.bits, IntKind.signed, IntKind.min, IntKind.max] using w4
    have g5 : DataW.trod enc Tryz.prog W base spare held m 3 (([v0, v1, v2, v3, v4, v5, v6, v7, v8, v9, v10, v11, v12, v13, v14, v15, v16, v17, v18, v19, v20].drop 5).take (Tryz.prog.cellsOf 3)) = some y5 := hfi 5 _ rfl
    rw [k_int] at g5
    replace g5 : DataW.trod enc Tryz.prog W base spare held m 3 [v5] = some y5 := g5
    have l5 := Light.part (j := 5) Tryz.underlying32 hl rfl rfl
    obtain ⟨n5, q5, _, w5⟩ := DataW.trod_int Tryz.underlying3 g5
    injection q5 with q5
    have i5 : -9223372036854775808 ≤ n5 ∧ n5 ≤ 9223372036854775807 := by simpa [Lit.wf, IntKind.bits, IntKind.signed, IntKind.min, IntKind.max] using w5
    have g6 : DataW.trod enc Tryz.prog W base spare held m 26 (([v0, v1, v2, v3, v4, v5, v6, v7, v8, v9, v10, v11, v12, v13, v14, v15, v16, v17, v18, v19, v20].drop 6).take (Tryz.prog.cellsOf 26)) = some y6 := hfi 6 _ rfl
    rw [k_fil] at g6
    replace g6 : DataW.trod enc Tryz.prog W base spare held m 26 [v6, v7, v8, v9, v10] = some y6 := g6
    have l6 := Light.part (j := 6) Tryz.underlying32 hl rfl rfl
    obtain ⟨⟨F6, fs6, fk6⟩, q6, a6, _⟩ := fil_each _ _ _ g6 l6
    have g7 : DataW.trod enc Tryz.prog W base spare held m 23 (([v0, v1, v2, v3, v4, v5, v6, v7, v8, v9, v10, v11, v12, v13, v14, v15, v16, v17, v18, v19, v20].drop 11).take (Tryz.prog.cellsOf 23)) = some y7 := hfi 7 _ rfl
    rw [k_lstring] at g7
    replace g7 : DataW.trod enc Tryz.prog W base spare held m 23 [v11] = some y7 := g7
    have l7 := Light.part (j := 7) Tryz.underlying32 hl rfl rfl
    obtain ⟨L7, a7, _, b7, _⟩ := strs_bulk g7 l7
    have g8 : DataW.trod enc Tryz.prog W base spare held m 27 (([v0, v1, v2, v3, v4, v5, v6, v7, v8, v9, v10, v11, v12, v13, v14, v15, v16, v17, v18, v19, v20].drop 12).take (Tryz.prog.cellsOf 27)) = some y8 := hfi 8 _ rfl
    rw [k_lapiMod] at g8
    replace g8 : DataW.trod enc Tryz.prog W base spare held m 27 [v12] = some y8 := g8
    have l8 := Light.part (j := 8) Tryz.underlying32 hl rfl rfl
    obtain ⟨L8, a8, _, m8⟩ := mods_cell_bulk g8 l8
    have g9 : DataW.trod enc Tryz.prog W base spare held m 28 (([v0, v1, v2, v3, v4, v5, v6, v7, v8, v9, v10, v11, v12, v13, v14, v15, v16, v17, v18, v19, v20].drop 13).take (Tryz.prog.cellsOf 28)) = some y9 := hfi 9 _ rfl
    rw [k_lapiAttr] at g9
    replace g9 : DataW.trod enc Tryz.prog W base spare held m 28 [v13] = some y9 := g9
    have l9 := Light.part (j := 9) Tryz.underlying32 hl rfl rfl
    obtain ⟨L9, a9, _, _, b9⟩ := attrs_cell_bulk g9 l9
    have g10 : DataW.trod enc Tryz.prog W base spare held m 9 (([v0, v1, v2, v3, v4, v5, v6, v7, v8, v9, v10, v11, v12, v13, v14, v15, v16, v17, v18, v19, v20].drop 14).take (Tryz.prog.cellsOf 9)) = some y10 := hfi 10 _ rfl
    rw [k_string] at g10
    replace g10 : DataW.trod enc Tryz.prog W base spare held m 9 [v14] = some y10 := g10
    have l10 := Light.part (j := 10) Tryz.underlying32 hl rfl rfl
    obtain ⟨x10, q10, z10, _⟩ := DataW.trod_string Tryz.underlying9 g10
    injection q10 with q10
    rw [z10] at l10
    have b10 := l10.str
    have g11 : DataW.trod enc Tryz.prog W base spare held m 4 (([v0, v1, v2, v3, v4, v5, v6, v7, v8, v9, v10, v11, v12, v13, v14, v15, v16, v17, v18, v19, v20].drop 15).take (Tryz.prog.cellsOf 4)) = some y11 := hfi 11 _ rfl
    rw [k_bool] at g11
    replace g11 : DataW.trod enc Tryz.prog W base spare held m 4 [v15] = some y11 := g11
    have l11 := Light.part (j := 11) Tryz.underlying32 hl rfl rfl
    obtain ⟨b11, q11, _⟩ := DataW.trod_bool Tryz.underlying4 g11
    injection q11 with q11
    have g12 : DataW.trod enc Tryz.prog W base spare held m 4 (([v0, v1, v2, v3, v4, v5, v6, v7, v8, v9, v10, v11, v12, v13, v14, v15, v16, v17, v18, v19, v20].drop 16).take (Tryz.prog.cellsOf 4)) = some y12 := hfi 12 _ rfl
    rw [k_bool] at g12
    replace g12 : DataW.trod enc Tryz.prog W base spare held m 4 [v16] = some y12 := g12
    have l12 := Light.part (j := 12) Tryz.underlying32 hl rfl rfl
    obtain ⟨b12, q12, _⟩ := DataW.trod_bool Tryz.underlying4 g12
    injection q12 with q12
    have g13 : DataW.trod enc Tryz.prog W base spare held m 9 (([v0, v1, v2, v3, v4, v5, v6, v7, v8, v9, v10, v11, v12, v13, v14, v15, v16, v17, v18, v19, v20].drop 17).take (Tryz.prog.cellsOf 9)) = some y13 := hfi 13 _ rfl
    rw [k_string] at g13
    replace g13 : DataW.trod enc Tryz.prog W base spare held m 9 [v17] = some y13 := g13
    have l13 := Light.part (j := 13) Tryz.underlying32 hl rfl rfl
    obtain ⟨x13, q13, z13, _⟩ := DataW.trod_string Tryz.underlying9 g13
    injection q13 with q13
    rw [z13] at l13
    have b13 := l13.str
    have g14 : DataW.trod enc Tryz.prog W base spare held m 30 (([v0, v1, v2, v3, v4, v5, v6, v7, v8, v9, v10, v11, v12, v13, v14, v15, v16, v17, v18, v19, v20].drop 18).take (Tryz.prog.cellsOf 30)) = some y14 := hfi 14 _ rfl
    rw [k_ava] at g14
    replace g14 : DataW.trod enc Tryz.prog W base spare held m 30 [v18, v19] = some y14 := g14
    have l14 := Light.part (j := 14) Tryz.underlying32 hl rfl rfl
    obtain ⟨av14, q14, b14, _⟩ := ava_each_bulk Tryz.underlying30 (by kernel_rfl) rfl rfl (by kernel_rfl) (by kernel_rfl) Tryz.underlying9 Tryz.underlying9 _ _ _ g14 l14
    have g15 : DataW.trod enc Tryz.prog W base spare held m 3 (([v0, v1, v2, v3, v4, v5, v6, v7, v8, v9, v10, v11, v12, v13, v14, v15, v16, v17, v18, v19, v20].drop 20).take (Tryz.prog.cellsOf 3)) = some y15 := hfi 15 _ rfl
    rw [k_int] at g15
    replace g15 : DataW.trod enc Tryz.prog W base spare held m 3 [v20] = some y15 := g15
    have l15 := Light.part (j := 15) Tryz.underlying32 hl rfl rfl
    obtain ⟨n15, q15, _, w15⟩ := DataW.trod_int Tryz.underlying3 g15
    injection q15 with q15
    have i15 : -9223372036854775808 ≤ n15 ∧ n15 ≤ 9223372036854775807 := by simpa [Lit.wf, IntKind.bits, IntKind.signed, IntKind.min, IntKind.max] using w15
    simp only [fic, avc, List.cons.injEq, and_true] at q6 q14
    obtain ⟨f0, f1, f2, f3, f4⟩ := q6
    obtain ⟨e0, e1⟩ := q14
    refine ⟨m, ⟨n0, n1, x2.data.toList, x3.data.toList, n4, n5, F6, L7, L8, L9, x10.data.toList, b11, b12, x13.data.toList, av14.1, av14.2, n15⟩, fs6, fk6, v11, v12, v13, ?_, ⟨a6, a7, a8, a9⟩, ⟨i0, i4, i5, i15, fun a ha => (m8 a ha).1⟩, ⟨b2, b3, b10, b13, b14.1, b14.2, b7, fun a ha => (m8 a ha).2, fun a ha => ⟨(b9 a ha).1, (b9 a ha).2.2⟩⟩⟩
    rw [q0, q1, q2, q3, q4, q5, f0, f1, f2, f3, f4, q10, q11, q12, q13, e0, e1, q15, sv_of x2, sv_of x3, sv_of x10, sv_of x13]
theorem request_in {r : Reach} {b0 : Nat} (h : DataW.Trod enc Tryz.prog W base spare held 32 v d p) (hv : Value.okWide Tryz.prog W r b0 32 v) (hl : Light Tryz.prog 32 d) :
    ∃ (n : Nat) (q : Rq) (A0 A1 A2 A3 A4 : Option Addr) (A0n A0c A1n A1c A2n A2c A3n A3c A4n A4c : Nat), v = .agg #[.int .i64 q.num, .int .i64 q.kind, sv q.dn, sv q.pass, .int .i64 q.scope, .int .i64 q.limit, .int .i64 q.fil.kind, sv q.fil.typ, sv q.fil.val, .slice A0 A0n A0c, .slice A1 A1n A1c, .slice A2 A2n A2c, .slice A3 A3n A3c, .slice A4 A4n A4c, sv q.rdn, .bool q.keep, .bool q.above, sv q.up, sv q.avt, sv q.avv, .int .i64 q.which] ∧ RqAt n W q (.slice A0 A0n A0c) (.slice A1 A1n A1c) (.slice A2 A2n A2c) (.slice A3 A3n A3c) (.slice A4 A4n A4c) ∧ NFit q ∧ LFit q := by
  obtain ⟨cs, rfl, hsz⟩ := okWide_struct Tryz.underlying32 hv
  obtain ⟨fuel, hf⟩ := h
  obtain ⟨n, q, vs, vk, vW, vM, vA, h1, h2, h3, h4⟩ := request_each _ _ _ hf hl
  obtain ⟨⟨A0, A0n, A0c, rfl⟩, A1, A1n, A1c, rfl⟩ := h2.fil.shape
  obtain ⟨A2, A2c, rfl, -⟩ := h2.want.open_
  obtain ⟨A3, A3c, rfl, -⟩ := h2.mods.open_
  obtain ⟨A4, A4c, rfl, -⟩ := h2.ats.open_
  have : cs = #[.int .i64 q.num, .int .i64 q.kind, sv q.dn, sv q.pass, .int .i64 q.scope, .int .i64 q.limit, .int .i64 q.fil.kind, sv q.fil.typ, sv q.fil.val, .slice A0 A0n A0c, .slice A1 A1n A1c, .slice A2 q.want.length A2c, .slice A3 q.mods.length A3c, .slice A4 q.ats.length A4c, sv q.rdn, .bool q.keep, .bool q.above, sv q.up, sv q.avt, sv q.avv, .int .i64 q.which] := by
    apply Array.toList_inj.1
    simpa [Value.cells] using h1
  exact ⟨n, q, A0, A1, A2, A3, A4, A0n, A0c, A1n, A1c, _, A2c, _, A3c, _, A4c, by rw [this], h2, h3, h4⟩
end
end Go.Proofs.YtoockogceobfgaaGreat
namespace Go.Proofs.YtoockogceobfgaaGreat
open Go.RowKit
set_option maxRecDepth 100000

set_option maxHeartbeats 8000000 in
theorem eqS16_any {w : World} {S S' : Nat → Prop} {v v' : Value} {L M : List (List UInt8)} (h : Ss w S v L) (h' : Ss w S' v' M) :
    Calls Tryz.prog 108 #[v, v'] w fun e w' => e = .returned (.bool (decide (L = M))) ∧ Ext w w' := by
  obtain ⟨A, c, rfl, h1, h2, h3, h4⟩ := h.open_
  obtain ⟨B, d, rfl, j1, j2, j3, j4⟩ := h'.open_
  by_cases hl : L.length = M.length
  case neg =>
    have hb : ((L.length : Int) != (M.length : Int)) = true := by rw [bne_iff_ne]; omega
    go_enter Tryz.func108, Tryz.ntmps108
    go_wp2_with fail
    go_ret
    exact ⟨by rw [dfalse (fun h => hl (by rw [h]))]; rfl, Mod.refl _ _⟩
  have hb : ((L.length : Int) != (M.length : Int)) = false := by rw [bne_eq_false_iff_eq]; omega
  replace hl := Lib.hid hl
  go_enter Tryz.func108, Tryz.ntmps108
  go_wp2_with fail
  go_loopw [13] (fun i wr => ∃ k : Nat, k ≤ L.length ∧ i = .int .i64 k ∧ Hid (L.take k = M.take k) ∧ Ext w wr) (fun i _ => L.length - (intOf i).toNat)
  case atStart => exact ⟨0, Nat.zero_le _, rfl, Lib.hid (by simp), Mod.refl _ _⟩
  case round =>
    obtain ⟨k, hk, rfl, hs, q3⟩ := hrel
    by_cases hlt : k < L.length
    case neg =>
      have hbl : decide ((k : Int) < (L.length : Int)) = false := dfalse (by omega)
      have hres : L = M := by
        have := hs.out
        rwa [List.take_of_length_le (by omega), List.take_of_length_le (by have := hl.out; omega)] at this
      replace hres := Lib.hid hres
      go_wp2_with fail
      go_ret
      exact ⟨by rw [dtrue hres.out]; rfl, q3⟩
    have hbl : decide ((k : Int) < (L.length : Int)) = true := dtrue (by omega)
    have hlm : k < M.length := by have := hl.out; omega
    obtain ⟨ad, hA, hS, c0⟩ := (Cells.mod h4 q3 (fun _ _ _ h => h)).at_ hlt
    subst hA
    obtain ⟨bd, hB, hT, d0⟩ := (Cells.mod j4 q3 (fun _ _ _ h => h)).at_ hlm
    subst hB
    have hsn : L.take (k + 1) = M.take (k + 1) ↔ L[k] = M[k] := by
      rw [List.take_succ_eq_append_getElem hlt, List.take_succ_eq_append_getElem hlm, hs.out]
      exact ⟨fun h => List.singleton_inj.1 (List.append_cancel_left h), fun h => by rw [h]⟩
    have hno : L[k] ≠ M[k] → L ≠ M := fun hn he => hn (by subst he; rfl)
    have hi0 : (0 : Int) ≤ (k : Int) := by omega
    have hi1 : (k : Int) < (L.length : Int) := by omega
    have hi2 : (k : Int) < (M.length : Int) := by omega
    generalize L[k] = x at *
    generalize M[k] = y at *
    have hdw : ∀ m, Ext w (wr.drewN m) := fun m => q3.drewN m
    cases hxy : (x == y)
    case true =>
      have hxn : (x != y) = false := by rw [bne, hxy]; rfl
      have hs2 := Lib.hid (hsn.2 (by rw [beq_iff_eq] at hxy; exact hxy))
      clear hsn hno
      go_wp2_with fail
      go_quiet (fail)
      go_wp2_with fail
      exact ⟨⟨k + 1, by omega, by go_num, hs2, hdw _⟩, by simp [intOf] <;> omega⟩
    have hxn : (x != y) = true := by rw [bne, hxy]; rfl
    have hno2 := Lib.hid (hno (by rw [beq_eq_false_iff_ne] at hxy; exact hxy))
    clear hsn hno
    go_wp2_with fail
    go_quiet (fail)
    go_wp2_with fail
    go_ret
    exact ⟨by rw [dfalse hno2.out]; rfl, hdw _⟩


/-- What the program's Same says. -/
def SamePI (n : Nat) : Prop := ∀ {w : World} {F G : Fi} {vs vk us uk : Value}, FilN n w F vs vk → FilN n w G us uk →
  Calls Tryz.prog 110 #[filV F vs vk, filV G us uk] w fun e w' => e = .returned (.bool (eqN n F G)) ∧ Ext w w'
set_option maxHeartbeats 32000000 in
theorem eqK_any {n : Nat} (ih : SamePI n) {w : World} {F G : Fi} {vs vk us uk : Value} (h : FilN (n + 1) w F vs vk) (h' : FilN (n + 1) w G us uk) :
    Calls Tryz.prog 136 #[vk, uk, .func (.func 110) #[] #[]] w fun e w' => e = .returned (.bool (decide (F.kids.length = G.kids.length) && (F.kids.zip G.kids).all (fun x => eqN n x.1 x.2))) ∧ Ext w w' := by
  obtain ⟨hFB, -, -, A, ca, ek, hop⟩ := h.open_
  obtain ⟨hGB, -, -, B, cb, fk, hoq⟩ := h'.open_
  have hkl := hFB.kl
  have hkl2 := hGB.kl
  obtain ⟨K, hKs⟩ : ∃ T, T = F.kids := ⟨_, rfl⟩
  obtain ⟨L, hLs⟩ : ∃ T, T = G.kids := ⟨_, rfl⟩
  rw [← hKs, ← hLs]
  rw [← hKs] at hkl ek hop
  rw [← hLs] at hkl2 fk hoq
  obtain ⟨R, hR⟩ : ∃ R, R = (decide (K.length = L.length) && (K.zip L).all fun x => eqN n x.fst x.snd) := ⟨_, rfl⟩
  rw [← hR]
  obtain ⟨q, hq⟩ : ∃ m, m = K.length := ⟨_, rfl⟩
  obtain ⟨q', hq'⟩ : ∃ m, m = L.length := ⟨_, rfl⟩
  rw [← hq] at ek hkl hR
  rw [← hq'] at fk hkl2 hR
  subst ek fk
  replace hq := Lib.hid hq
  replace hq' := Lib.hid hq'
  clear h h' hFB hGB hKs hLs
  by_cases hqq : q = q'
  rotate_left
  · have hr : Hid (R = false) := Lib.hid (by rw [hR, dfalse hqq]; rfl)
    have hqb : ((q : Int) != (q' : Int)) = true := bne_iff_ne.2 (by omega)
    clear hR hop hoq hqq
    go_enter Tryz.func136, Tryz.ntmps136
    go_wp2_with fail
    go_ret
    exact ⟨by rw [hr.out]; rfl, Mod.refl _ _⟩
  have hr : R = (K.zip L).all fun x => eqN n x.fst x.snd := by rw [hR, dtrue hqq]; rfl
  replace hr := Lib.hid hr
  subst hqq
  have hqb : ((q : Int) != (q : Int)) = false := bne_self_eq_false _
  clear hR
  go_enter Tryz.func136, Tryz.ntmps136
  go_wp2_with fail
  go_loopw [17] (fun i wr => ∃ k : Nat, k ≤ q ∧ i = .int .i64 k ∧ Hid (((K.take k).zip (L.take k)).all (fun x => eqN n x.1 x.2) = true) ∧ Ext w wr) (fun i _ => q - (intOf i).toNat)
  case atStart => exact ⟨0, Nat.zero_le _, rfl, Lib.hid (by simp), Mod.refl _ _⟩
  case round =>
    clear hqb
    obtain ⟨k, hkq, rfl, hal, hx⟩ := hrel
    by_cases hlt : k < q
    case neg =>
      have hbl : decide ((k : Int) < (q : Int)) = false := dfalse (by omega)
      have hbn : decide (k < q) = false := dfalse (by omega)
      have hr2 : Hid (R = true) := Lib.hid (by
        have h1 := hal.out
        rw [List.take_of_length_le (by have := hq.out; omega), List.take_of_length_le (by have := hq'.out; omega)] at h1
        rw [hr.out, h1])
      clear hal hr hop hoq
      go_wp2_with fail
      go_ret
      exact ⟨by rw [hr2.out]; rfl, hx⟩
    have hbl : decide ((k : Int) < (q : Int)) = true := dtrue (by omega)
    have hbn : decide (k < q) = true := dtrue (by omega)
    have hi0 : (0 : Int) ≤ (k : Int) := by omega
    have hi1 : (k : Int) < (q : Int) := by omega
    have hkK : k < K.length := by have := hq.out; omega
    have hkL : k < L.length := by have := hq'.out; omega
    obtain ⟨ag, ys, yk, e2, a0, a1, a2, a3, a4, hF⟩ := hop k hkK
    obtain ⟨bg, zs, zk, e3, b0, b1, b2, b3, b4, hG⟩ := hoq k hkL
    subst e2 e3
    have hzn := zip_next (n := n) hkK hkL
    have hzo := zip_no (n := n) hkK hkL
    have hss := hF.shape
    have hsz := hG.shape
    generalize K[k] = xF at *
    generalize L[k] = xG at *
    obtain ⟨⟨A3, m3, c3, rfl⟩, A4, m4, c4, rfl⟩ := hss
    obtain ⟨⟨A5, m5, c5, rfl⟩, A6, m6, c6, rfl⟩ := hsz
    replace a0 := ext_cell hx a0
    replace a1 := ext_cell hx a1
    replace a2 := ext_cell hx a2
    replace a3 := ext_cell hx a3
    replace a4 := ext_cell hx a4
    obtain ⟨wa, hwa⟩ : ∃ y7 : World, y7 = wr.alloc (.cells #[.int .i64 xF.kind, sv xF.typ, sv xF.val, .slice A3 m3 c3, .slice A4 m4 c4] 26) := ⟨_, rfl⟩
    obtain ⟨ga, hga⟩ : ∃ y8, y8 = wr.heap.size := ⟨_, rfl⟩
    have xa : Ext wr wa := by rw [hwa]; exact (Mod.refl _ wr).alloc _
    have BA : Blk wa ga 26 #[.int .i64 xF.kind, sv xF.typ, sv xF.val, .slice A3 m3 c3, .slice A4 m4 c4] := by rw [hwa, hga]; exact Blk.new wr _ _
    replace b0 := ext_cell (ext_trans hx xa) b0
    replace b1 := ext_cell (ext_trans hx xa) b1
    replace b2 := ext_cell (ext_trans hx xa) b2
    replace b3 := ext_cell (ext_trans hx xa) b3
    replace b4 := ext_cell (ext_trans hx xa) b4
    obtain ⟨wb, hwb⟩ : ∃ y7 : World, y7 = wa.alloc (.cells #[.int .i64 xG.kind, sv xG.typ, sv xG.val, .slice A5 m5 c5, .slice A6 m6 c6] 26) := ⟨_, rfl⟩
    obtain ⟨gb, hgb⟩ : ∃ y8, y8 = wa.heap.size := ⟨_, rfl⟩
    have xb : Ext wa wb := by rw [hwb]; exact (Mod.refl _ wa).alloc _
    have BB : Blk wb gb 26 #[.int .i64 xG.kind, sv xG.typ, sv xG.val, .slice A5 m5 c5, .slice A6 m6 c6] := by rw [hwb, hgb]; exact Blk.new wa _ _
    obtain ⟨-, p0, p1, p2, p3, p4⟩ := (BA.mod xb (fun h => h)).five
    obtain ⟨-, o0, o1, o2, o3, o4⟩ := BB.five
    have hxb := ext_trans hx (ext_trans xa xb)
    have hcall := ih (hF.ext hxb) (hG.ext hxb)
    replace hwa := Lib.hid hwa
    replace hga := Lib.hid hga
    replace hwb := Lib.hid hwb
    replace hgb := Lib.hid hgb
    clear hF hG xa xb BA BB hop hoq hkK hkL
    cases hqv : eqN n xF xG
    · have hr2 : Hid (R = false) := Lib.hid (by rw [hr.out, hzo hqv])
      rw [hqv] at hcall
      replace hcall := Lib.hid hcall
      clear hzn hzo hal hr hqv
      go_upto_region 6 with fail
      rw [← hwa.out, ← hga.out]
      clear hwa hga a0 a1 a2 a3 a4 hx
      go_upto_region 7 with fail
      rw [← hwb.out, ← hgb.out]
      clear hwb hgb b0 b1 b2 b3 b4
      go_wp2_with fail
      refine hcall.out.mono ?_
      rintro e w3 ⟨rfl, x3⟩
      go_wp2_with fail
      go_ret
      exact ⟨by rw [hr2.out]; rfl, ext_trans hxb x3⟩
    · have hal2 := Lib.hid (show ((K.take (k + 1)).zip (L.take (k + 1))).all (fun x => eqN n x.1 x.2) = true by rw [hzn, hal.out, hqv]; rfl)
      rw [hqv] at hcall
      replace hcall := Lib.hid hcall
      clear hzn hzo hal hr hqv
      go_upto_region 6 with fail
      rw [← hwa.out, ← hga.out]
      clear hwa hga a0 a1 a2 a3 a4 hx
      go_upto_region 7 with fail
      rw [← hwb.out, ← hgb.out]
      clear hwb hgb b0 b1 b2 b3 b4
      go_wp2_with fail
      refine hcall.out.mono ?_
      rintro e w3 ⟨rfl, x3⟩
      have x4 := ext_trans hxb x3
      clear hxb x3
      go_wp2_with fail
      exact ⟨⟨k + 1, by omega, by go_num, hal2, x4⟩, by simp [intOf] <;> omega⟩
set_option maxHeartbeats 32000000 in
theorem fsame_step {n : Nat} (ih : SamePI n) : SamePI (n + 1) := by
  intro w F G vs vk us uk h h'
  obtain ⟨R, hR⟩ : ∃ R, R = eqN (n + 1) F G := ⟨_, rfl⟩
  rw [← hR]
  rw [eqN_succ] at hR
  obtain ⟨-, -, hS, -⟩ := h.open_
  obtain ⟨-, -, hT, -⟩ := h'.open_
  obtain ⟨⟨As, m, cs, rfl⟩, A, q, ca, rfl⟩ := h.shape
  obtain ⟨⟨Bs', m', ds, rfl⟩, B, q', cb, rfl⟩ := h'.shape
  show Calls Tryz.prog 110 #[.agg #[.int .i64 F.kind, sv F.typ, sv F.val, .slice As m cs, .slice A q ca], .agg #[.int .i64 G.kind, sv G.typ, sv G.val, .slice Bs' m' ds, .slice B q' cb]] w _
  obtain ⟨w1, hw1⟩ : ∃ y7 : World, y7 = (w.alloc (.cells #[.int .i64 F.kind, sv F.typ, sv F.val, .slice As m cs, .slice A q ca] 26)).alloc (.cells #[.int .i64 G.kind, sv G.typ, sv G.val, .slice Bs' m' ds, .slice B q' cb] 26) := ⟨_, rfl⟩
  obtain ⟨p, hp⟩ : ∃ y8, y8 = w.heap.size := ⟨_, rfl⟩
  have x1 : Ext w w1 := by rw [hw1]; exact ((Mod.refl _ w).alloc _).alloc _
  have BP : Blk w1 p 26 #[.int .i64 F.kind, sv F.typ, sv F.val, .slice As m cs, .slice A q ca] := by rw [hw1, hp]; exact (Blk.new w _ _).alloc _
  have BQ : Blk w1 (p + 1) 26 #[.int .i64 G.kind, sv G.typ, sv G.val, .slice Bs' m' ds, .slice B q' cb] := by
    rw [hw1, hp]
    have := Blk.new (w.alloc (.cells #[.int .i64 F.kind, sv F.typ, sv F.val, .slice As m cs, .slice A q ca] 26)) 26 #[.int .i64 G.kind, sv G.typ, sv G.val, .slice Bs' m' ds, .slice B q' cb]
    simpa using this
  have hcc : ∀ {wx : World}, Ext w1 wx → wx.cell? ⟨p, 4, none⟩ = some (.slice A q ca) ∧ wx.cell? ⟨p + 1, 4, none⟩ = some (.slice B q' cb) := fun x => ⟨(BP.mod x (fun h => h)).cell 4, (BQ.mod x (fun h => h)).cell 4⟩
  obtain ⟨-, p0, p1, p2, p3, p4⟩ := BP.five
  obtain ⟨-, o0, o1, o2, o3, o4⟩ := BQ.five
  have htx := eqS16_any (Sl.ext hS x1) (Sl.ext hT x1)
  have hkk := fun {wx : World} (x : Ext w wx) => Lib.hid (eqK_any ih (h.ext x) (h'.ext x))
  clear h h' hS hT
  obtain ⟨D, hD⟩ : ∃ D, D = (decide (F.kids.length = G.kids.length) && (F.kids.zip G.kids).all (fun x => eqN n x.1 x.2)) := ⟨_, rfl⟩
  rw [← hD] at hkk hR
  clear hD
  obtain ⟨X, hX⟩ : ∃ X, X = decide (F.subs = G.subs) := ⟨_, rfl⟩
  rw [← hX] at htx hR
  clear hX
  generalize F.kind = kd at *
  generalize F.typ = T at *
  generalize F.val = V at *
  generalize G.kind = kd' at *
  generalize G.typ = T' at *
  generalize G.val = V' at *
  replace hw1 := Lib.hid hw1
  replace hp := Lib.hid hp
  replace hR := Lib.hid hR
  replace htx := Lib.hid htx
  clear BP BQ
  go_enter Tryz.func110, Tryz.ntmps110
  go_upto_region 1 with fail
  rw [← hw1.out, ← hp.out]
  clear hw1 hp
  cases hk : (kd == kd')
  · have hr : Hid (R = false) := Lib.hid (by rw [hR.out, hk]; rfl)
    clear hR htx hkk
    go_wp2_with fail
    go_ret
    exact ⟨by rw [hr.out]; rfl, x1⟩
  cases hT : (T == T')
  · have hr : Hid (R = false) := Lib.hid (by rw [hR.out, hk, hT]; rfl)
    clear hR htx hkk
    go_wp2_with fail
    go_ret
    exact ⟨by rw [hr.out]; rfl, x1⟩
  cases hV : (V == V')
  · have hr : Hid (R = false) := Lib.hid (by rw [hR.out, hk, hT, hV]; rfl)
    clear hR htx hkk
    go_wp2_with fail
    go_ret
    exact ⟨by rw [hr.out]; rfl, x1⟩
  have hR2 : R = (X && D) := by rw [hR.out, hk, hT, hV]; rfl
  replace hR2 := Lib.hid hR2
  clear hR
  cases X
  · have hr : Hid (R = false) := Lib.hid (by rw [hR2.out]; rfl)
    clear hR2 hkk
    go_wp2_with fail
    refine htx.out.mono ?_
    rintro e w2 ⟨rfl, x2⟩
    go_wp2_with fail
    go_ret
    exact ⟨by rw [hr.out]; rfl, ext_trans x1 x2⟩
  have hr : Hid (R = D) := Lib.hid (by rw [hR2.out]; rfl)
  clear hR2
  go_wp2_with fail
  refine htx.out.mono ?_
  rintro e w2 ⟨rfl, x2⟩
  obtain ⟨g4, g5⟩ := hcc x2
  have x3 := ext_trans x1 x2
  have hk2 := hkk x3
  clear p0 p1 p2 p3 p4 o0 o1 o2 o3 o4 htx hk hT hV hkk
  go_wp2_with fail
  refine hk2.out.mono ?_
  rintro e w4 ⟨rfl, x4⟩
  go_wp2_with fail
  go_ret
  exact ⟨by rw [hr.out]; rfl, ext_trans x3 x4⟩
theorem fsame_any : ∀ n, SamePI n
  | 0 => fun h => h.elim
  | n + 1 => fsame_step (fsame_any n)
end Go.Proofs.YtoockogceobfgaaGreat
namespace Go.Proofs.YtoockogceobfgaaGreat
open Go.RowKit
set_option maxRecDepth 100000

set_option maxHeartbeats 8000000 in
theorem atEq_any {w : World} {S S' : Nat → Prop} {x0 y0 : List UInt8} {v v' : Value} {L M : List (List UInt8)} (h : Ss w S v L) (h' : Ss w S' v' M) :
    Calls Tryz.prog 135 #[.agg #[sv x0, v], .agg #[sv y0, v']] w fun e w' => e = .returned (.bool (decide ((⟨x0, L⟩ : Att) = ⟨y0, M⟩))) ∧ Ext w w' := by
  obtain ⟨A1, n1, c1, rfl⟩ : ∃ A n c, v = .slice A n c := by obtain ⟨A, c, e, _⟩ := h.open_; exact ⟨A, _, c, e⟩
  obtain ⟨A2, n2, c2, rfl⟩ : ∃ A n c, v' = .slice A n c := by obtain ⟨A, c, e, _⟩ := h'.open_; exact ⟨A, _, c, e⟩
  obtain ⟨R, hR⟩ : ∃ R, R = decide ((⟨x0, L⟩ : Att) = ⟨y0, M⟩) := ⟨_, rfl⟩
  rw [← hR]
  have hR2 : R = (x0 == y0 && decide (L = M)) := by rw [hR, Bool.eq_iff_iff]; simp
  clear hR
  obtain ⟨x2a, x2b, x2⟩ := Blk.twoN w #[sv x0, .slice A1 n1 c1] #[sv y0, .slice A2 n2 c2] 88 88
  obtain ⟨w2, hw2⟩ : ∃ x, x = (w.alloc (.cells #[sv x0, .slice A1 n1 c1] 88)).alloc (.cells #[sv y0, .slice A2 n2 c2] 88) := ⟨_, rfl⟩
  rw [← hw2] at x2a x2b x2
  obtain ⟨q, hq⟩ : ∃ q, q = w.heap.size + 1 := ⟨_, rfl⟩
  obtain ⟨p, hp⟩ : ∃ p, p = w.heap.size := ⟨_, rfl⟩
  rw [← hq] at x2b
  rw [← hp] at x2a
  have a0 : w2.cell? ⟨p, 0, none⟩ = some (sv x0) := x2a.cell 0
  have b0 : w2.cell? ⟨q, 0, none⟩ = some (sv y0) := x2b.cell 0
  have a1 : w2.cell? ⟨p, 1, none⟩ = some (.slice A1 n1 c1) := x2a.cell 1
  have b1 : w2.cell? ⟨q, 1, none⟩ = some (.slice A2 n2 c2) := x2b.cell 1
  have hc := eqS16_any (Sl.ext h x2) (Sl.ext h' x2)
  obtain ⟨X, hX⟩ : ∃ X, X = decide (L = M) := ⟨_, rfl⟩
  rw [← hX] at hc hR2
  replace hc := Lib.hid hc
  replace hw2 := Lib.hid hw2
  replace hq := Lib.hid hq
  replace hp := Lib.hid hp
  replace hR2 := Lib.hid hR2
  clear h h' hX x2a x2b
  go_enter Tryz.func135, Tryz.ntmps135
  go_upto_region 1 with fail
  rw [← hw2.out, ← hq.out, ← hp.out]
  clear hw2 hq hp
  cases h0 : (x0 == y0)
  · have hr : Hid (R = false) := Lib.hid (by rw [hR2.out, h0]; rfl)
    clear hR2 hc
    go_wp2_with fail
    go_ret
    exact ⟨by rw [hr.out]; rfl, x2⟩
  have hr : Hid (R = X) := Lib.hid (by rw [hR2.out, h0]; rfl)
  clear hR2
  go_wp2_with fail
  refine hc.out.mono ?_
  rintro e w3 ⟨rfl, x3⟩
  go_wp2_with fail
  go_ret
  exact ⟨by rw [hr.out]; rfl, ext_trans x2 x3⟩
set_option maxHeartbeats 8000000 in
theorem mdEq_any {w : World} {S S' : Nat → Prop} {x0 y0 : Int} {x1 y1 : List UInt8} {v v' : Value} {L M : List (List UInt8)} (h : Ss w S v L) (h' : Ss w S' v' M) :
    Calls Tryz.prog 112 #[.agg #[.int .i64 x0, sv x1, v], .agg #[.int .i64 y0, sv y1, v']] w fun e w' => e = .returned (.bool (decide ((⟨x0, x1, L⟩ : Md) = ⟨y0, y1, M⟩))) ∧ Ext w w' := by
  obtain ⟨A1, n1, c1, rfl⟩ : ∃ A n c, v = .slice A n c := by obtain ⟨A, c, e, _⟩ := h.open_; exact ⟨A, _, c, e⟩
  obtain ⟨A2, n2, c2, rfl⟩ : ∃ A n c, v' = .slice A n c := by obtain ⟨A, c, e, _⟩ := h'.open_; exact ⟨A, _, c, e⟩
  obtain ⟨R, hR⟩ : ∃ R, R = decide ((⟨x0, x1, L⟩ : Md) = ⟨y0, y1, M⟩) := ⟨_, rfl⟩
  rw [← hR]
  have hR2 : R = (x0 == y0 && (x1 == y1 && decide (L = M))) := by rw [hR, Bool.eq_iff_iff]; simp
  clear hR
  obtain ⟨x2a, x2b, x2⟩ := Blk.twoN w #[.int .i64 x0, sv x1, .slice A1 n1 c1] #[.int .i64 y0, sv y1, .slice A2 n2 c2] 86 86
  obtain ⟨w2, hw2⟩ : ∃ x, x = (w.alloc (.cells #[.int .i64 x0, sv x1, .slice A1 n1 c1] 86)).alloc (.cells #[.int .i64 y0, sv y1, .slice A2 n2 c2] 86) := ⟨_, rfl⟩
  rw [← hw2] at x2a x2b x2
  obtain ⟨q, hq⟩ : ∃ q, q = w.heap.size + 1 := ⟨_, rfl⟩
  obtain ⟨p, hp⟩ : ∃ p, p = w.heap.size := ⟨_, rfl⟩
  rw [← hq] at x2b
  rw [← hp] at x2a
  have a0 : w2.cell? ⟨p, 0, none⟩ = some (.int .i64 x0) := x2a.cell 0
  have b0 : w2.cell? ⟨q, 0, none⟩ = some (.int .i64 y0) := x2b.cell 0
  have a1 : w2.cell? ⟨p, 1, none⟩ = some (sv x1) := x2a.cell 1
  have b1 : w2.cell? ⟨q, 1, none⟩ = some (sv y1) := x2b.cell 1
  have a2 : w2.cell? ⟨p, 2, none⟩ = some (.slice A1 n1 c1) := x2a.cell 2
  have b2 : w2.cell? ⟨q, 2, none⟩ = some (.slice A2 n2 c2) := x2b.cell 2
  have hc := eqS16_any (Sl.ext h x2) (Sl.ext h' x2)
  obtain ⟨X, hX⟩ : ∃ X, X = decide (L = M) := ⟨_, rfl⟩
  rw [← hX] at hc hR2
  replace hc := Lib.hid hc
  replace hw2 := Lib.hid hw2
  replace hq := Lib.hid hq
  replace hp := Lib.hid hp
  replace hR2 := Lib.hid hR2
  clear h h' hX x2a x2b
  go_enter Tryz.func112, Tryz.ntmps112
  go_upto_region 1 with fail
  rw [← hw2.out, ← hq.out, ← hp.out]
  clear hw2 hq hp
  cases h0 : (x0 == y0)
  · have hr : Hid (R = false) := Lib.hid (by rw [hR2.out, h0]; rfl)
    clear hR2 hc
    go_wp2_with fail
    go_ret
    exact ⟨by rw [hr.out]; rfl, x2⟩
  cases h1 : (x1 == y1)
  · have hr : Hid (R = false) := Lib.hid (by rw [hR2.out, h0, h1]; rfl)
    clear hR2 hc
    go_wp2_with fail
    go_ret
    exact ⟨by rw [hr.out]; rfl, x2⟩
  have hr : Hid (R = X) := Lib.hid (by rw [hR2.out, h0, h1]; rfl)
  clear hR2
  go_wp2_with fail
  refine hc.out.mono ?_
  rintro e w3 ⟨rfl, x3⟩
  go_wp2_with fail
  go_ret
  exact ⟨by rw [hr.out]; rfl, ext_trans x2 x3⟩
theorem Ats.bound {w : World} {v : Value} {L : List Att} (h : Ats w v L) : L.length ≤ 9223372036854775807 := by
  obtain ⟨rs, h1, h2, _⟩ := h
  obtain ⟨A, c, _, h3, h4, _⟩ := h1.open_ atc_len
  omega
set_option maxHeartbeats 16000000 in
theorem eqAts_any {w : World} {v u : Value} {K L : List Att} (h : Ats w v K) (h' : Ats w u L) :
    Calls Tryz.prog 134 #[v, u, .func (.func 135) #[] #[]] w fun e w' => e = .returned (.bool (decide (K = L))) ∧ Ext w w' := by
  have hkl := h.bound
  have hkl2 := h'.bound
  obtain ⟨A, ca, ek, -⟩ := h.open_
  obtain ⟨B, cb, fk, -⟩ := h'.open_
  have hop := fun {wx : World} (x : Ext w wx) => (h.ext x).open_
  have hoq := fun {wx : World} (x : Ext w wx) => (h'.ext x).open_
  obtain ⟨R, hR⟩ : ∃ R, R = decide (K = L) := ⟨_, rfl⟩
  rw [← hR]
  obtain ⟨q, hq⟩ : ∃ m, m = K.length := ⟨_, rfl⟩
  obtain ⟨q', hq'⟩ : ∃ m, m = L.length := ⟨_, rfl⟩
  rw [← hq] at ek hkl
  rw [← hq'] at fk hkl2
  subst ek fk
  have hRn : K ≠ L → R = false := fun g => by rw [hR]; exact decide_eq_false g
  have hRy : K = L → R = true := fun g => by rw [hR]; exact decide_eq_true g
  replace hq := Lib.hid hq
  replace hq' := Lib.hid hq'
  clear h h' hR
  by_cases hqq : q = q'
  rotate_left
  · have hr : Hid (R = false) := Lib.hid (hRn (fun g => hqq (by rw [hq.out, hq'.out, g])))
    have hqb : ((q : Int) != (q' : Int)) = true := bne_iff_ne.2 (by omega)
    clear hRn hRy hop hoq hqq
    go_enter Tryz.func134, Tryz.ntmps134
    go_wp2_with fail
    go_ret
    exact ⟨by rw [hr.out]; rfl, Mod.refl _ _⟩
  subst hqq
  have hqb : ((q : Int) != (q : Int)) = false := bne_self_eq_false _
  replace hRn := Lib.hid hRn
  replace hRy := Lib.hid hRy
  go_enter Tryz.func134, Tryz.ntmps134
  go_wp2_with fail
  go_loopw [17] (fun i wr => ∃ k : Nat, k ≤ q ∧ i = .int .i64 k ∧ Hid (K.take k = L.take k) ∧ Ext w wr) (fun i _ => q - (intOf i).toNat)
  case atStart => exact ⟨0, Nat.zero_le _, rfl, Lib.hid (by simp), Mod.refl _ _⟩
  case round =>
    clear hqb
    obtain ⟨k, hkq, rfl, hal, hx⟩ := hrel
    by_cases hlt : k < q
    case neg =>
      have hbl : decide ((k : Int) < (q : Int)) = false := dfalse (by omega)
      have hbn : decide (k < q) = false := dfalse (by omega)
      have hr2 : Hid (R = true) := Lib.hid (by
        have h1 := hal.out
        rw [List.take_of_length_le (by have := hq.out; omega), List.take_of_length_le (by have := hq'.out; omega)] at h1
        exact hRy.out h1)
      clear hal hRn hRy hop hoq
      go_wp2_with fail
      go_ret
      exact ⟨by rw [hr2.out]; rfl, hx⟩
    have hbl : decide ((k : Int) < (q : Int)) = true := dtrue (by omega)
    have hbn : decide (k < q) = true := dtrue (by omega)
    have hi0 : (0 : Int) ≤ (k : Int) := by omega
    have hi1 : (k : Int) < (q : Int) := by omega
    have hkK : k < K.length := by have := hq.out; omega
    have hkL : k < L.length := by have := hq'.out; omega
    obtain ⟨A', ca', g1, h5⟩ := hop hx
    rw [← hq.out] at g1
    injection g1 with g1 _ g3
    subst g1
    subst g3
    obtain ⟨ag, y1, e2, a0, a1, hF⟩ := h5 k hkK
    obtain ⟨B', cb', g1, h6⟩ := hoq hx
    rw [← hq'.out] at g1
    injection g1 with g1 _ g3
    subst g1
    subst g3
    obtain ⟨bg, y2, e3, b0, b1, hG⟩ := h6 k hkL
    subst e2 e3
    obtain ⟨A3, m3, c3, rfl⟩ : ∃ A n c, y1 = .slice A n c := by obtain ⟨A, c, e, _⟩ := hF.open_; exact ⟨A, _, c, e⟩
    obtain ⟨A5, m5, c5, rfl⟩ : ∃ A n c, y2 = .slice A n c := by obtain ⟨A, c, e, _⟩ := hG.open_; exact ⟨A, _, c, e⟩
    have hsn : K.take (k + 1) = L.take (k + 1) ↔ K[k] = L[k] := by
      rw [List.take_succ_eq_append_getElem hkK, List.take_succ_eq_append_getElem hkL, hal.out]
      exact ⟨fun h => List.singleton_inj.1 (List.append_cancel_left h), fun h => by rw [h]⟩
    have hno : K[k] ≠ L[k] → R = false := fun hn => hRn.out (fun he => hn (by subst he; rfl))
    generalize K[k] = xF at *
    generalize L[k] = xG at *
    obtain ⟨wa, hwa⟩ : ∃ y7 : World, y7 = wr.alloc (.cells #[sv xF.typ, .slice A3 m3 c3] 88) := ⟨_, rfl⟩
    obtain ⟨ga, hga⟩ : ∃ y8, y8 = wr.heap.size := ⟨_, rfl⟩
    have xa : Ext wr wa := by rw [hwa]; exact (Mod.refl _ wr).alloc _
    have BA : Blk wa ga 88 #[sv xF.typ, .slice A3 m3 c3] := by rw [hwa, hga]; exact Blk.new wr _ _
    replace b0 := ext_cell xa b0
    replace b1 := ext_cell xa b1
    obtain ⟨wb, hwb⟩ : ∃ y7 : World, y7 = wa.alloc (.cells #[sv xG.typ, .slice A5 m5 c5] 88) := ⟨_, rfl⟩
    obtain ⟨gb, hgb⟩ : ∃ y8, y8 = wa.heap.size := ⟨_, rfl⟩
    have xb : Ext wa wb := by rw [hwb]; exact (Mod.refl _ wa).alloc _
    have BB : Blk wb gb 88 #[sv xG.typ, .slice A5 m5 c5] := by rw [hwb, hgb]; exact Blk.new wa _ _
    have BA2 := BA.mod xb (fun h => h)
    have p0 : wb.cell? ⟨ga, 0, none⟩ = some (sv xF.typ) := BA2.cell 0
    have o0 : wb.cell? ⟨gb, 0, none⟩ = some (sv xG.typ) := BB.cell 0
    have p1 : wb.cell? ⟨ga, 1, none⟩ = some (.slice A3 m3 c3) := BA2.cell 1
    have o1 : wb.cell? ⟨gb, 1, none⟩ = some (.slice A5 m5 c5) := BB.cell 1
    have hxb := ext_trans hx (ext_trans xa xb)
    have hcall := atEq_any (x0 := xF.typ) (y0 := xG.typ) (Sl.ext hF (ext_trans xa xb)) (Sl.ext hG (ext_trans xa xb))
    rw [show ((Att.mk xF.typ xF.vals) = xF) from rfl, show ((Att.mk xG.typ xG.vals) = xG) from rfl] at hcall
    replace hwa := Lib.hid hwa
    replace hga := Lib.hid hga
    replace hwb := Lib.hid hwb
    replace hgb := Lib.hid hgb
    clear hF hG xa xb BA BB BA2 hop hoq hkK hkL h5 h6
    by_cases hqv : xF = xG
    · have hal2 := Lib.hid (hsn.2 hqv)
      rw [dtrue hqv] at hcall
      replace hcall := Lib.hid hcall
      clear hsn hno hal hRn hRy hqv
      go_upto_region 6 with fail
      rw [← hwa.out, ← hga.out]
      clear hwa hga a0 a1 hx
      go_upto_region 7 with fail
      rw [← hwb.out, ← hgb.out]
      clear hwb hgb b0 b1
      go_wp2_with fail
      refine hcall.out.mono ?_
      rintro e w3 ⟨rfl, x3⟩
      have x4 := ext_trans hxb x3
      clear hxb x3
      go_wp2_with fail
      exact ⟨⟨k + 1, by omega, by go_num, hal2, x4⟩, by simp [intOf] <;> omega⟩
    · have hr2 := Lib.hid (hno hqv)
      rw [dfalse hqv] at hcall
      replace hcall := Lib.hid hcall
      clear hsn hno hal hRn hRy hqv
      go_upto_region 6 with fail
      rw [← hwa.out, ← hga.out]
      clear hwa hga a0 a1 hx
      go_upto_region 7 with fail
      rw [← hwb.out, ← hgb.out]
      clear hwb hgb b0 b1
      go_wp2_with fail
      refine hcall.out.mono ?_
      rintro e w3 ⟨rfl, x3⟩
      go_wp2_with fail
      go_ret
      exact ⟨by rw [hr2.out]; rfl, ext_trans hxb x3⟩
theorem Mds.bound {w : World} {v : Value} {L : List Md} (h : Mds w v L) : L.length ≤ 9223372036854775807 := by
  obtain ⟨rs, h1, h2, _⟩ := h
  obtain ⟨A, c, _, h3, h4, _⟩ := h1.open_ mdc_len
  omega
set_option maxHeartbeats 16000000 in
theorem eqMds_any {w : World} {v u : Value} {K L : List Md} (h : Mds w v K) (h' : Mds w u L) :
    Calls Tryz.prog 111 #[v, u, .func (.func 112) #[] #[]] w fun e w' => e = .returned (.bool (decide (K = L))) ∧ Ext w w' := by
  have hkl := h.bound
  have hkl2 := h'.bound
  obtain ⟨A, ca, ek, -⟩ := h.open_
  obtain ⟨B, cb, fk, -⟩ := h'.open_
  have hop := fun {wx : World} (x : Ext w wx) => (h.ext x).open_
  have hoq := fun {wx : World} (x : Ext w wx) => (h'.ext x).open_
  obtain ⟨R, hR⟩ : ∃ R, R = decide (K = L) := ⟨_, rfl⟩
  rw [← hR]
  obtain ⟨q, hq⟩ : ∃ m, m = K.length := ⟨_, rfl⟩
  obtain ⟨q', hq'⟩ : ∃ m, m = L.length := ⟨_, rfl⟩
  rw [← hq] at ek hkl
  rw [← hq'] at fk hkl2
  subst ek fk
  have hRn : K ≠ L → R = false := fun g => by rw [hR]; exact decide_eq_false g
  have hRy : K = L → R = true := fun g => by rw [hR]; exact decide_eq_true g
  replace hq := Lib.hid hq
  replace hq' := Lib.hid hq'
  clear h h' hR
  by_cases hqq : q = q'
  rotate_left
  · have hr : Hid (R = false) := Lib.hid (hRn (fun g => hqq (by rw [hq.out, hq'.out, g])))
    have hqb : ((q : Int) != (q' : Int)) = true := bne_iff_ne.2 (by omega)
    clear hRn hRy hop hoq hqq
    go_enter Tryz.func111, Tryz.ntmps111
    go_wp2_with fail
    go_ret
    exact ⟨by rw [hr.out]; rfl, Mod.refl _ _⟩
  subst hqq
  have hqb : ((q : Int) != (q : Int)) = false := bne_self_eq_false _
  replace hRn := Lib.hid hRn
  replace hRy := Lib.hid hRy
  go_enter Tryz.func111, Tryz.ntmps111
  go_wp2_with fail
  go_loopw [17] (fun i wr => ∃ k : Nat, k ≤ q ∧ i = .int .i64 k ∧ Hid (K.take k = L.take k) ∧ Ext w wr) (fun i _ => q - (intOf i).toNat)
  case atStart => exact ⟨0, Nat.zero_le _, rfl, Lib.hid (by simp), Mod.refl _ _⟩
  case round =>
    clear hqb
    obtain ⟨k, hkq, rfl, hal, hx⟩ := hrel
    by_cases hlt : k < q
    case neg =>
      have hbl : decide ((k : Int) < (q : Int)) = false := dfalse (by omega)
      have hbn : decide (k < q) = false := dfalse (by omega)
      have hr2 : Hid (R = true) := Lib.hid (by
        have h1 := hal.out
        rw [List.take_of_length_le (by have := hq.out; omega), List.take_of_length_le (by have := hq'.out; omega)] at h1
        exact hRy.out h1)
      clear hal hRn hRy hop hoq
      go_wp2_with fail
      go_ret
      exact ⟨by rw [hr2.out]; rfl, hx⟩
    have hbl : decide ((k : Int) < (q : Int)) = true := dtrue (by omega)
    have hbn : decide (k < q) = true := dtrue (by omega)
    have hi0 : (0 : Int) ≤ (k : Int) := by omega
    have hi1 : (k : Int) < (q : Int) := by omega
    have hkK : k < K.length := by have := hq.out; omega
    have hkL : k < L.length := by have := hq'.out; omega
    obtain ⟨A', ca', g1, h5⟩ := hop hx
    rw [← hq.out] at g1
    injection g1 with g1 _ g3
    subst g1
    subst g3
    obtain ⟨ag, y1, e2, a0, a1, a2, hF⟩ := h5 k hkK
    obtain ⟨B', cb', g1, h6⟩ := hoq hx
    rw [← hq'.out] at g1
    injection g1 with g1 _ g3
    subst g1
    subst g3
    obtain ⟨bg, y2, e3, b0, b1, b2, hG⟩ := h6 k hkL
    subst e2 e3
    obtain ⟨A3, m3, c3, rfl⟩ : ∃ A n c, y1 = .slice A n c := by obtain ⟨A, c, e, _⟩ := hF.open_; exact ⟨A, _, c, e⟩
    obtain ⟨A5, m5, c5, rfl⟩ : ∃ A n c, y2 = .slice A n c := by obtain ⟨A, c, e, _⟩ := hG.open_; exact ⟨A, _, c, e⟩
    have hsn : K.take (k + 1) = L.take (k + 1) ↔ K[k] = L[k] := by
      rw [List.take_succ_eq_append_getElem hkK, List.take_succ_eq_append_getElem hkL, hal.out]
      exact ⟨fun h => List.singleton_inj.1 (List.append_cancel_left h), fun h => by rw [h]⟩
    have hno : K[k] ≠ L[k] → R = false := fun hn => hRn.out (fun he => hn (by subst he; rfl))
    generalize K[k] = xF at *
    generalize L[k] = xG at *
    obtain ⟨wa, hwa⟩ : ∃ y7 : World, y7 = wr.alloc (.cells #[.int .i64 xF.kind, sv xF.typ, .slice A3 m3 c3] 86) := ⟨_, rfl⟩
    obtain ⟨ga, hga⟩ : ∃ y8, y8 = wr.heap.size := ⟨_, rfl⟩
    have xa : Ext wr wa := by rw [hwa]; exact (Mod.refl _ wr).alloc _
    have BA : Blk wa ga 86 #[.int .i64 xF.kind, sv xF.typ, .slice A3 m3 c3] := by rw [hwa, hga]; exact Blk.new wr _ _
    replace b0 := ext_cell xa b0
    replace b1 := ext_cell xa b1
    replace b2 := ext_cell xa b2
    obtain ⟨wb, hwb⟩ : ∃ y7 : World, y7 = wa.alloc (.cells #[.int .i64 xG.kind, sv xG.typ, .slice A5 m5 c5] 86) := ⟨_, rfl⟩
    obtain ⟨gb, hgb⟩ : ∃ y8, y8 = wa.heap.size := ⟨_, rfl⟩
    have xb : Ext wa wb := by rw [hwb]; exact (Mod.refl _ wa).alloc _
    have BB : Blk wb gb 86 #[.int .i64 xG.kind, sv xG.typ, .slice A5 m5 c5] := by rw [hwb, hgb]; exact Blk.new wa _ _
    have BA2 := BA.mod xb (fun h => h)
    have p0 : wb.cell? ⟨ga, 0, none⟩ = some (.int .i64 xF.kind) := BA2.cell 0
    have o0 : wb.cell? ⟨gb, 0, none⟩ = some (.int .i64 xG.kind) := BB.cell 0
    have p1 : wb.cell? ⟨ga, 1, none⟩ = some (sv xF.typ) := BA2.cell 1
    have o1 : wb.cell? ⟨gb, 1, none⟩ = some (sv xG.typ) := BB.cell 1
    have p2 : wb.cell? ⟨ga, 2, none⟩ = some (.slice A3 m3 c3) := BA2.cell 2
    have o2 : wb.cell? ⟨gb, 2, none⟩ = some (.slice A5 m5 c5) := BB.cell 2
    have hxb := ext_trans hx (ext_trans xa xb)
    have hcall := mdEq_any (x0 := xF.kind) (y0 := xG.kind) (x1 := xF.typ) (y1 := xG.typ) (Sl.ext hF (ext_trans xa xb)) (Sl.ext hG (ext_trans xa xb))
    rw [show ((Md.mk xF.kind xF.typ xF.vals) = xF) from rfl, show ((Md.mk xG.kind xG.typ xG.vals) = xG) from rfl] at hcall
    replace hwa := Lib.hid hwa
    replace hga := Lib.hid hga
    replace hwb := Lib.hid hwb
    replace hgb := Lib.hid hgb
    clear hF hG xa xb BA BB BA2 hop hoq hkK hkL h5 h6
    by_cases hqv : xF = xG
    · have hal2 := Lib.hid (hsn.2 hqv)
      rw [dtrue hqv] at hcall
      replace hcall := Lib.hid hcall
      clear hsn hno hal hRn hRy hqv
      go_upto_region 6 with fail
      rw [← hwa.out, ← hga.out]
      clear hwa hga a0 a1 a2 hx
      go_upto_region 7 with fail
      rw [← hwb.out, ← hgb.out]
      clear hwb hgb b0 b1 b2
      go_wp2_with fail
      refine hcall.out.mono ?_
      rintro e w3 ⟨rfl, x3⟩
      have x4 := ext_trans hxb x3
      clear hxb x3
      go_wp2_with fail
      exact ⟨⟨k + 1, by omega, by go_num, hal2, x4⟩, by simp [intOf] <;> omega⟩
    · have hr2 := Lib.hid (hno hqv)
      rw [dfalse hqv] at hcall
      replace hcall := Lib.hid hcall
      clear hsn hno hal hRn hRy hqv
      go_upto_region 6 with fail
      rw [← hwa.out, ← hga.out]
      clear hwa hga a0 a1 a2 hx
      go_upto_region 7 with fail
      rw [← hwb.out, ← hgb.out]
      clear hwb hgb b0 b1 b2
      go_wp2_with fail
      refine hcall.out.mono ?_
      rintro e w3 ⟨rfl, x3⟩
      go_wp2_with fail
      go_ret
      exact ⟨by rw [hr2.out]; rfl, ext_trans hxb x3⟩
theorem sameAts_any {w : World} {v u : Value} {K L : List Att} (h : Ats w v K) (h' : Ats w u L) :
    Calls Tryz.prog 109 #[v, u] w fun e w' => e = .returned (.bool (decide (K = L))) ∧ Ext w w' := by
  obtain ⟨A1, n1, c1, rfl⟩ : ∃ A n c, v = .slice A n c := by obtain ⟨A, c, e, _⟩ := h.open_; exact ⟨A, _, c, e⟩
  obtain ⟨A2, n2, c2, rfl⟩ : ∃ A n c, u = .slice A n c := by obtain ⟨A, c, e, _⟩ := h'.open_; exact ⟨A, _, c, e⟩
  have hc := Lib.hid (eqAts_any h h')
  go_enter Tryz.func109, Tryz.ntmps109
  go_wp2_with fail
  refine hc.out.mono ?_
  rintro e w1 ⟨rfl, x1⟩
  go_wp2_with fail
  go_ret
  exact ⟨rfl, x1⟩
end Go.Proofs.YtoockogceobfgaaGreat
