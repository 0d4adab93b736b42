/- mem: a Mem in memory; what its small methods tell. -/
import Derived.Test.YtlfooppmdgddkaaMemB
namespace Go.Proofs.Ytlfooppmdgddkaa
open Go.RowKit
set_option maxRecDepth 100000

abbrev ndc (x : Nd) : List Value := [sv x.c.key, sv x.c.val, .bool x.c.del, .int .i64 x.c.seq, .int .i64 (x.t : Nat), .int .i64 (x.h : Nat)]
theorem ndc_len (x : Nd) : (ndc x).length = 6 := rfl
theorem ndc_ok (x : Nd) : ∀ u ∈ ndc x, u.oneCell' = true := by
  intro u hu
  simp only [List.mem_cons, List.not_mem_nil, or_false] at hu
  rcases hu with rfl | rfl | rfl | rfl | rfl | rfl <;> rfl
abbrev dv (n : Int) : Value := .int .u32 n
abbrev nv (n : Nat) : Value := .int .i64 (n : Int)
theorem tyN : SliceTyK Try.prog 100 108 (.agg #[.string ⟨#[]⟩, .string ⟨#[]⟩, .bool false, .int .i64 0, .int .i64 0, .int .i64 0]) 6 64 := ⟨Try.underlying100, by kernel_rfl, rfl, by decide, by decide⟩
theorem tyD : SliceTy Try.prog 50 99 (.int .u32 0) 4 := ⟨Try.underlying50, by kernel_rfl, rfl, by decide⟩

/-- A Mem at g: its draws, nodes, arena, size; all of it in blocks of S. -/
structure Mx (w : World) (S : Nat → Prop) (g : Nat) (D : List Int) (N : List Nd) (A : List Nat) (n : Nat) (vd vn va : Value) : Prop where
  blk : Blk w g 102 #[vd, vn, va, .int .i64 (n : Int)]
  d : Own w 99 vd (D.map dv)
  n : OwnR ndc 6 w 108 vn N
  a : Own w 3 va (A.map nv)
  sg : S g
  sd : ∀ k, own vd k → S k
  sn : ∀ k, own vn k → S k
  sa : ∀ k, own va k → S k
section
variable {w w' : World} {S T F : Nat → Prop} {g n : Nat} {D : List Int} {N : List Nd} {A : List Nat} {vd vn va : Value}
theorem Mx.mod (m : Mx w S g D N A n vd vn va) (h : Mod F w w') (hF : ∀ k, k < w.heap.size → S k → ¬ F k) : Mx w' S g D N A n vd vn va :=
  ⟨m.blk.mod h (hF g m.blk.lt m.sg), m.d.mod h (fun k hk => hF k (m.d.lt hk) (m.sd k hk)), m.n.mod h (fun k hk => hF k (m.n.lt hk) (m.sn k hk)), m.a.mod h (fun k hk => hF k (m.a.lt hk) (m.sa k hk)), m.sg, m.sd, m.sn, m.sa⟩
theorem Mx.ext (m : Mx w S g D N A n vd vn va) (h : Ext w w') : Mx w' S g D N A n vd vn va := m.mod h (fun _ _ _ h => h)
theorem Mx.mono (m : Mx w S g D N A n vd vn va) (h : ∀ k, k < w.heap.size → S k → T k) : Mx w T g D N A n vd vn va :=
  ⟨m.blk, m.d, m.n, m.a, h g m.blk.lt m.sg, fun k hk => h k (m.d.lt hk) (m.sd k hk), fun k hk => h k (m.n.lt hk) (m.sn k hk), fun k hk => h k (m.a.lt hk) (m.sa k hk)⟩
theorem Ns.at_ {B : Option Addr} (h : RcAt ndc 6 w S B N) {i : Nat} (hi : i < N.length) :
    ∃ ad, B = some ad ∧ S ad.block ∧ w.cell? (ad.add (i * 6)) = some (sv (nd N i).c.key) ∧ w.cell? ⟨(ad.add (i * 6)).block, (ad.add (i * 6)).off + 1, none⟩ = some (sv (nd N i).c.val) ∧ w.cell? ⟨(ad.add (i * 6)).block, (ad.add (i * 6)).off + 2, none⟩ = some (.bool (nd N i).c.del) ∧ w.cell? ⟨(ad.add (i * 6)).block, (ad.add (i * 6)).off + 3, none⟩ = some (.int .i64 (nd N i).c.seq) ∧ w.cell? ⟨(ad.add (i * 6)).block, (ad.add (i * 6)).off + 4, none⟩ = some (.int .i64 ((nd N i).t : Nat)) ∧ w.cell? ⟨(ad.add (i * 6)).block, (ad.add (i * 6)).off + 5, none⟩ = some (.int .i64 ((nd N i).h : Nat)) := by
  have hd : nd N i = N[i] := by simp [nd, hi]
  rw [hd]
  obtain ⟨ad, hA, hS, h0⟩ := h i 0 _ hi (by omega) rfl
  obtain ⟨_, hA1, _, h1⟩ := h i 1 _ hi (by omega) rfl
  obtain ⟨_, hA2, _, h2⟩ := h i 2 _ hi (by omega) rfl
  obtain ⟨_, hA3, _, h3⟩ := h i 3 _ hi (by omega) rfl
  obtain ⟨_, hA4, _, h4⟩ := h i 4 _ hi (by omega) rfl
  obtain ⟨_, hA5, _, h5⟩ := h i 5 _ hi (by omega) rfl
  rw [hA] at hA1 hA2 hA3 hA4 hA5
  cases hA1; cases hA2; cases hA3; cases hA4; cases hA5
  rw [add_next _ _ _ (by omega)] at h1 h2 h3 h4 h5
  exact ⟨ad, hA, hS, h0, h1, h2, h3, h4, h5⟩
end

set_option maxHeartbeats 4000000 in
theorem spot_any {w : World} {S : Nat → Prop} {g n : Nat} {D : List Int} {N : List Nd} {A : List Nat} {vd vn va : Value} (m : Mx w S g D N A n vd vn va) {a h : Nat} (ha : a < N.length) (hh : (nd N a).t + h < A.length) :
    Calls Try.prog 78 #[.pointer (some ⟨g, 0, none⟩), .int .i64 a, .int .i64 h] w fun e w' => (∃ ga ca, va = .slice (some ⟨ga, 0, none⟩) A.length ca ∧ e = .returned (.pointer (some ⟨ga, (nd N a).t + h, none⟩))) ∧ ∃ k, w' = w.drewN k := by
  have b1 : w.cell? ⟨g, 1, none⟩ = some vn := m.blk.cell 1
  have b2 : w.cell? ⟨g, 2, none⟩ = some va := m.blk.cell 2
  obtain ⟨B, c, rfl, h1, h2, h3, h4⟩ := m.n.rc.open_ ndc_len
  obtain ⟨ad, hA, hS, c0, c1, c2, c3, c4, c5⟩ := Ns.at_ h4 ha
  subst hA
  have hz : A.length ≤ 9223372036854775807 := by
    have := m.a.sl.open_
    obtain ⟨_, _, _, h1, h2, _⟩ := this
    omega
  obtain ⟨ga, ca, hva⟩ : ∃ ga ca, va = .slice (some ⟨ga, 0, none⟩) A.length ca := by
    rcases m.a.form with ⟨_, h⟩ | ⟨ga, ca, h, _⟩
    · have : A = [] := by simpa using h
      subst this; simp at hh
    · exact ⟨ga, ca, by simpa using h⟩
  obtain ⟨aa, haa⟩ : ∃ aa : Addr, aa = ⟨ga, 0, none⟩ := ⟨_, rfl⟩
  rw [← haa] at hva
  subst hva
  replace haa := Lib.hid haa
  generalize nd N a = x at *
  have hi0 : (0 : Int) ≤ (a : Int) := by omega
  have hi1 : (a : Int) < (N.length : Int) := by omega
  have hi2 : (0 : Int) ≤ (x.t : Int) + (h : Int) := by omega
  have hi3 : (x.t : Int) + (h : Int) < (A.length : Int) := by omega
  have hw : IntKind.i64.wrap ((x.t : Int) + (h : Int)) = (x.t : Int) + (h : Int) := by rw [IntKind.wrap_i64]; omega
  clear m h1 h2 h3 h4 hS c0 c1 c2 c3 c5
  go_enter Try.func78, Try.ntmps78
  go_wp2_with fail
  go_quiet (fail)
  go_wp2_with fail
  go_ret
  exact ⟨⟨ga, ca, by rw [haa.out], by rw [haa.out, add_lit]; rfl⟩, nq, rfl⟩

set_option maxHeartbeats 4000000 in
theorem next_any {w : World} {S : Nat → Prop} {g n : Nat} {D : List Int} {N : List Nd} {A : List Nat} {vd vn va : Value} (m : Mx w S g D N A n vd vn va) {a h : Nat} (ha : a < N.length) (hh : (nd N a).t + h < A.length) :
    Calls Try.prog 76 #[.pointer (some ⟨g, 0, none⟩), .int .i64 a, .int .i64 h] w fun e w' => e = .returned (.int .i64 (nxt N A a h : Nat)) ∧ ∃ k, w' = w.drewN k := by
  have hsp := spot_any m ha hh
  obtain ⟨i, hi⟩ : ∃ i, i = (nd N a).t + h := ⟨_, rfl⟩
  have hx : nxt N A a h = A.getD i 0 := by unfold nxt; rw [hi]
  rw [hx]
  rw [← hi] at hh hsp
  clear hx hi
  go_enter Try.func76, Try.ntmps76
  go_wp2_with fail
  refine hsp.mono ?_
  rintro e w1 ⟨⟨ga, ca, hva, rfl⟩, k, rfl⟩
  subst hva
  have hc := m.a.cellAt (j := i) (by rw [List.length_map]; exact hh)
  rw [List.getElem_map, show A[i] = A.getD i 0 by simp [hh]] at hc
  have hc' : (w.drewN k).cell? ⟨ga, i, none⟩ = some (.int .i64 (A.getD i 0 : Nat)) := hc
  obtain ⟨y, hy⟩ : ∃ y, y = A.getD i 0 := ⟨_, rfl⟩
  rw [← hy] at hc'
  replace hy := Lib.hid hy
  clear m hsp hc
  go_wp2_with fail
  go_ret
  exact ⟨by rw [← hy.out]; rfl, k, rfl⟩

set_option maxHeartbeats 4000000 in
theorem ahead_any {w : World} {S : Nat → Prop} {g n : Nat} {D : List Int} {N : List Nd} {A : List Nat} {vd vn va : Value} (m : Mx w S g D N A n vd vn va) {a : Nat} (ha : a < N.length) (c : Ce) :
    Calls Try.prog 97 #[.pointer (some ⟨g, 0, none⟩), .int .i64 a, .agg (car c)] w fun e w' => e = .returned (.bool (lessC (nd N a).c c)) ∧ Ext w w' := by
  have x0 : Ext w (w.alloc (.cells (car c) 23)) := (Mod.refl _ w).alloc _
  obtain ⟨d0, d1, d2, d3⟩ := boxed w c
  have m0 := m.ext x0
  have b1 : _ = some vn := m0.blk.cell 1
  obtain ⟨B, k, rfl, h1, h2, h3, h4⟩ := m0.n.rc.open_ ndc_len
  obtain ⟨ad, hA, hS, c0, c1, c2, c3, c4, c5⟩ := Ns.at_ h4 ha
  subst hA
  generalize nd N a = x at *
  have hi0 : (0 : Int) ≤ (a : Int) := by omega
  have hi1 : (a : Int) < (N.length : Int) := by omega
  have hle := fun wx => less_any (w := wx) x.c c
  clear m h1 h2 h3 h4 hS c4 c5 m0
  go_enter Try.func97, Try.ntmps97
  obtain ⟨w0, hw0⟩ : ∃ w0, w0 = w.alloc (.cells (car c) 23) := ⟨_, rfl⟩
  rw [← hw0] at x0 d0 d1 d2 d3 b1 c0 c1 c2 c3
  replace hw0 := Lib.hid hw0
  have q0 : Ext w0 w0.drew := (Mod.refl _ w0).drew
  have hc : ∀ {wx : World}, Ext w0 wx → wx.cell? ⟨g, 1, none⟩ = some (.slice (some ad) N.length k) ∧ wx.cell? (ad.add (a * 6)) = some (sv x.c.key) ∧ wx.cell? ⟨(ad.add (a * 6)).block, (ad.add (a * 6)).off + 1, none⟩ = some (sv x.c.val) ∧ wx.cell? ⟨(ad.add (a * 6)).block, (ad.add (a * 6)).off + 2, none⟩ = some (.bool x.c.del) ∧ wx.cell? ⟨(ad.add (a * 6)).block, (ad.add (a * 6)).off + 3, none⟩ = some (.int .i64 x.c.seq) ∧ wx.cell? ⟨w.heap.size, 0, none⟩ = some (sv c.key) ∧ wx.cell? ⟨w.heap.size, 1, none⟩ = some (sv c.val) ∧ wx.cell? ⟨w.heap.size, 2, none⟩ = some (.bool c.del) ∧ wx.cell? ⟨w.heap.size, 3, none⟩ = some (.int .i64 c.seq) := fun hx => ⟨(hx.cell (lt_of_cell b1) (fun h => h)).trans b1, (hx.cell (lt_of_cell c0) (fun h => h)).trans c0, (hx.cell (lt_of_cell c1) (fun h => h)).trans c1, (hx.cell (lt_of_cell c2) (fun h => h)).trans c2, (hx.cell (lt_of_cell c3) (fun h => h)).trans c3, (hx.cell (lt_of_cell d0) (fun h => h)).trans d0, (hx.cell (lt_of_cell d1) (fun h => h)).trans d1, (hx.cell (lt_of_cell d2) (fun h => h)).trans d2, (hx.cell (lt_of_cell d3) (fun h => h)).trans d3⟩
  go_upto_region 1 with fail
  rw [← hw0.out]
  go_region_held3 (fun wx => wx.cell? ⟨g, 1, none⟩ = some (.slice (some ad) N.length k) ∧ wx.cell? (ad.add (a * 6)) = some (sv x.c.key) ∧ wx.cell? ⟨(ad.add (a * 6)).block, (ad.add (a * 6)).off + 1, none⟩ = some (sv x.c.val) ∧ wx.cell? ⟨(ad.add (a * 6)).block, (ad.add (a * 6)).off + 2, none⟩ = some (.bool x.c.del) ∧ wx.cell? ⟨(ad.add (a * 6)).block, (ad.add (a * 6)).off + 3, none⟩ = some (.int .i64 x.c.seq) ∧ wx.cell? ⟨w.heap.size, 0, none⟩ = some (sv c.key) ∧ wx.cell? ⟨w.heap.size, 1, none⟩ = some (sv c.val) ∧ wx.cell? ⟨w.heap.size, 2, none⟩ = some (.bool c.del) ∧ wx.cell? ⟨w.heap.size, 3, none⟩ = some (.int .i64 c.seq)) (first | exact hc q0 | exact hc q1) (first
    | (go_at_call 20; (with_reducible refine (hle _).mono ?_); rintro e w1 ⟨rfl, x1⟩; have q1 := ext_trans q0 x1))
  all_goals go_wp2_with fail
  all_goals go_ret
  all_goals exact ⟨rfl, ext_trans x0 q1⟩

set_option maxHeartbeats 4000000 in
theorem draw_any {w : World} {S : Nat → Prop} {g n : Nat} {D : List Int} {N : List Nd} {A : List Nat} {vd vn va : Value} (m : Mx w S g D N A n vd vn va) (hD : D.length ≤ 1000000) (hN : N.length ≤ 1000000) :
    Calls Try.prog 77 #[.pointer (some ⟨g, 0, none⟩)] w fun e w' => (∃ h : Nat, 1 ≤ h ∧ h ≤ 12 ∧ e = .returned (.int .i64 (h : Nat))) ∧ Ext w w' := by
  have b0 : w.cell? ⟨g, 0, none⟩ = some vd := m.blk.cell 0
  have b1 : w.cell? ⟨g, 1, none⟩ = some vn := m.blk.cell 1
  obtain ⟨B, c, rfl, h1, h2, h3, h4⟩ := m.n.rc.open_ ndc_len
  obtain ⟨C, e, rfl, k1, k2, k3, k4⟩ := m.d.sl.open_
  have hd0 : 0 < D.length → ∃ ad, C = some ad ∧ w.cell? (ad.add (N.length % D.length)) = some (.int .u32 (D.getD (N.length % D.length) 0)) := fun h => by
    have hlt := Nat.mod_lt N.length h
    obtain ⟨ad, h1, _, h2⟩ := k4.at_ hlt
    exact ⟨ad, h1, by rw [h2]; simp [hlt]⟩
  clear m h4 k4 h3 k3
  have hbo : ∀ q : Int, ∃ b, (bits BinOp.and IntKind.u32 q 3 == 0) = b := fun q => ⟨_, rfl⟩
  go_enter Try.func77, Try.ntmps77
  by_cases hz : 0 < D.length
  case neg =>
    have hbz : decide ((0 : Int) < (D.length : Int)) = false := dfalse (by omega)
    clear hd0
    go_upto_region 8 with fail
    go_wp2_with fail
    go_loopw [4, 5] (fun x i wr => ∃ (q : Int) (h : Nat), x = .int .u32 q ∧ i = .int .i64 (h : Nat) ∧ 1 ≤ h ∧ h ≤ 12 ∧ Ext w wr) (fun x i _ => 12 - (intOf i).toNat)
    case atStart => exact ⟨_, 1, rfl, rfl, by omega, by omega, Mod.refl _ _⟩
    case round =>
      obtain ⟨q, h, rfl, rfl, h1, h12, x1⟩ := hrel
      by_cases hl : h < 12
      case neg =>
        have hb : decide ((h : Int) < 12) = false := dfalse (by omega)
        go_wp2_with fail
        go_ret
        exact ⟨⟨h, h1, h12, rfl⟩, x1⟩
      have hb : decide ((h : Int) < 12) = true := dtrue (by omega)
      obtain ⟨b, hb2⟩ := hbo q
      cases b
      · go_wp2_with fail
        go_ret
        exact ⟨⟨h, h1, h12, rfl⟩, x1⟩
      · go_wp2_with fail
        exact ⟨⟨_, h + 1, rfl, by go_num, by omega, by omega, x1⟩, by simp [intOf] <;> omega⟩
  case pos =>
    have hbz : decide ((0 : Int) < (D.length : Int)) = true := dtrue (by omega)
    obtain ⟨ad, hA, hc⟩ := hd0 hz
    subst hA
    have hlt := Nat.mod_lt N.length hz
    have hz2 : ¬ (D.length : Int) = 0 := by omega
    have hmod : (N.length : Int) % (D.length : Int) = ((N.length % D.length : Nat) : Int) := by omega
    generalize D.getD (N.length % D.length) 0 = y at *
    generalize N.length % D.length = r at *
    have hi0 : (0 : Int) ≤ (r : Int) := by omega
    have hi1 : (r : Int) < (D.length : Int) := by omega
    go_upto_region 4 with fail
    go_quiet (fail)
    go_upto_region 8 with fail
    go_wp2_with fail
    go_loopw [4, 5] (fun x i wr => ∃ (q : Int) (h : Nat), x = .int .u32 q ∧ i = .int .i64 (h : Nat) ∧ 1 ≤ h ∧ h ≤ 12 ∧ Ext w wr) (fun x i _ => 12 - (intOf i).toNat)
    case atStart => exact ⟨_, 1, rfl, rfl, by omega, by omega, (Mod.refl _ w).drewN _⟩
    case round =>
      obtain ⟨q, h, rfl, rfl, h1, h12, x1⟩ := hrel
      by_cases hl : h < 12
      case neg =>
        have hb : decide ((h : Int) < 12) = false := dfalse (by omega)
        go_wp2_with fail
        go_ret
        exact ⟨⟨h, h1, h12, rfl⟩, x1⟩
      have hb : decide ((h : Int) < 12) = true := dtrue (by omega)
      obtain ⟨b, hb2⟩ := hbo q
      cases b
      · go_wp2_with fail
        go_ret
        exact ⟨⟨h, h1, h12, rfl⟩, x1⟩
      · go_wp2_with fail
        exact ⟨⟨_, h + 1, rfl, by go_num, by omega, by omega, x1⟩, by simp [intOf] <;> omega⟩
end Go.Proofs.Ytlfooppmdgddkaa
