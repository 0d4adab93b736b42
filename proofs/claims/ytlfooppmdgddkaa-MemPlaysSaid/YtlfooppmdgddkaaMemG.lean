/- mem: New, first, Get, Size, Len. -/
import Derived.Test.YtlfooppmdgddkaaMemF
namespace Go.Proofs.Ytlfooppmdgddkaa
open Go.RowKit
set_option maxRecDepth 100000

theorem index12 (w : World) (P : Nat → Nat) : (Instr.index 104 (.agg #[nv (P 0), nv (P 1), nv (P 2), nv (P 3), nv (P 4), nv (P 5), nv (P 6), nv (P 7), nv (P 8), nv (P 9), nv (P 10), nv (P 11)]) (.int .i64 0)).run Try.prog w = .ok (nv (P 0)) w := by
  simp only [Instr.index, asIntOf, run_underlying Try.underlying104, Sem.run_bind, Result.andThen]
  exact run_part_plain w (by kernel_rfl) rfl
theorem dv_one (l : List Int) : ∀ u ∈ l.map dv, u.oneCell' = true := by
  intro u hu
  obtain ⟨c, _, rfl⟩ := List.mem_map.1 hu
  rfl
set_option maxHeartbeats 4000000 in
theorem clone_any {w : World} {S : Nat → Prop} {v : Value} {D : List Int} (h : Sl w S v (D.map dv)) (hD : D.length ≤ 1000000) :
    Calls Try.prog 73 #[v] w fun e w' => ∃ v', e = .returned v' ∧ Own w' 99 v' (D.map dv) ∧ Fresh w.heap.size v' ∧ Ext w w' := by
  obtain ⟨A, c, hv, h1, h2, h3, -⟩ := h.open_
  subst hv
  cases A with
  | none =>
    have hD0 : D = [] := List.eq_nil_of_length_eq_zero (by have := h3 rfl; omega)
    subst hD0
    have he : ∀ wx : World, (binOp .eql 50 (.slice none 0 0) (.slice none 0 0)).run Try.prog wx = .ok (.bool true) wx := fun _ => rfl
    have hc0 : c = 0 := h3 rfl
    subst hc0
    go_enter Try.func73, Try.ntmps73
    go_wp2_with fail
    go_ret
    exact ⟨_, rfl, Own.nil _ _, fresh_nil _ _ _, Mod.refl _ _⟩
  | some ad =>
    have he : ∀ wx : World, (binOp .eql 50 (.slice (some ad) D.length c) (.slice none 0 0)).run Try.prog wx = .ok (.bool false) wx := fun _ => rfl
    have hlit : Own (w.alloc (.cells #[] 99)) 99 (.slice (some ⟨w.heap.size, 0, none⟩) 0 0) (([] : List Int).map dv) := Own.lit w 99 [] (by simp [maxLen])
    have x0 : Ext w (w.alloc (.cells #[] 99)) := (Mod.refl _ w).alloc _
    have hn0 : ((([] : List Int).map dv).length + (D.map dv).length) * 4 ≤ 140737488355328 := by simp only [List.length_map, List.length_nil]; omega
    have f0 : Fresh w.heap.size (.slice (some ⟨w.heap.size, 0, none⟩) 0 0) := fun k hk => by have : w.heap.size = k := Option.some.inj hk; omega
    go_enter Try.func73, Try.ntmps73
    go_wp2_with ((with_reducible show wpList _ _ _ (⟨some 7, _, _, _, _, _⟩ :: _) _ _); refine wp_app tyD hlit (h.ext x0) (dv_one _) rfl (.tmp 5) (.tmp 6) rfl rfl rfl hn0 ?_; intro v2 w2 k1 k2 k3)
    go_ret
    exact ⟨v2, rfl, by simpa using k1, k3.fresh f0 x0.size, x0.trans k2 (fun _ _ h => h) (fun i hi hF => by have := f0 i hF; omega)⟩

set_option maxHeartbeats 4000000 in
theorem new_any {w : World} {S : Nat → Prop} {v : Value} {D : List Int} (h : Sl w S v (D.map dv)) (hD : D.length ≤ 1000000) :
    Calls Try.prog 37 #[v] w fun e w' => ∃ g, e = .returned (.pointer (some ⟨g, 0, none⟩)) ∧ Mt w' (fun k => w.heap.size ≤ k) g D [] ∧ Ext w w' := by
  have hcl := clone_any h hD
  go_enter Try.func37, Try.ntmps37
  go_wp2_with fail
  refine hcl.mono ?_
  rintro e w1 ⟨v1, rfl, o1, f1, x1⟩
  obtain ⟨A1, c1, hv1⟩ := o1.shape
  rw [List.length_map] at hv1
  subst hv1
  go_wp2_with fail
  go_ret
  refine ⟨w1.heap.size, rfl, ⟨[], [], _, _, _, ⟨Blk.new w1 _ _, o1.alloc _, OwnR.nil _ _ _ _, Own.nil _ _, x1.size, fun k hk => f1 k hk, fun k hk => ?_, fun k hk => ?_⟩, .inl ⟨rfl, rfl, rfl⟩, fun c hc => ?_⟩, x1.alloc _⟩
  · cases hk
  · cases hk
  · cases hc

/-- What stands in the nodes. -/
def Ok (N : List Nd) (A : List Nat) (L : List Ce) : Prop := (N = [] ∧ A = [] ∧ L = []) ∨ (Sk N A ∧ Ls N L ∧ N.length = L.length + 1 ∧ A.length ≤ 12 * N.length)

set_option maxHeartbeats 4000000 in
theorem first9_any {w : World} {S : Nat → Prop} {g n : Nat} {D : List Int} {N : List Nd} {A : List Nat} {L : List Ce} {vd vn va : Value} (m : Mx w S g D N A n vd vn va) (ok : Ok N A L) (c : Ce) :
    Calls Try.prog 79 #[.pointer (some ⟨g, 0, none⟩), .agg (car c)] w fun e w' => (∃ a : Nat, e = .returned (.int .i64 a) ∧ AtR N a (fromC L c)) ∧ Ext w w' := by
  have x0 : Ext w (w.alloc (.cells (car c) 23)) := (Mod.refl _ w).alloc _
  have B0 : Blk (w.alloc (.cells (car c) 23)) w.heap.size 23 (car c) := Blk.new w _ _
  have m0 := m.ext x0
  obtain ⟨w0, hw0⟩ : ∃ w0, w0 = w.alloc (.cells (car c) 23) := ⟨_, rfl⟩
  rw [← hw0] at x0 B0 m0
  have d0 : w0.cell? ⟨w.heap.size, 0, none⟩ = some (sv c.key) := B0.cell 0
  have d1 : w0.cell? ⟨w.heap.size, 1, none⟩ = some (sv c.val) := B0.cell 1
  have d2 : w0.cell? ⟨w.heap.size, 2, none⟩ = some (.bool c.del) := B0.cell 2
  have d3 : w0.cell? ⟨w.heap.size, 3, none⟩ = some (.int .i64 c.seq) := B0.cell 3
  replace hw0 := Lib.hid hw0
  have b1 : w0.cell? ⟨g, 1, none⟩ = some vn := m0.blk.cell 1
  obtain ⟨Bn, cn, hvn, -⟩ := m0.n.rc.open_ ndc_len
  rw [hvn] at b1
  replace hvn := Lib.hid hvn
  go_enter Try.func79, Try.ntmps79
  go_upto_region 1 with fail
  rw [← hw0.out]
  rcases ok with ⟨rfl, rfl, rfl⟩ | hs
  · go_wp2_with fail
    go_ret
    exact ⟨⟨0, rfl, .inl ⟨rfl, rfl⟩⟩, x0⟩
  have hbz : ((N.length : Int) == 0) = false := by rw [beq_eq_false_iff_ne]; have := hs.1.head.1; omega
  have hpa := path_any m0 hs.1 c
  go_wp2_with fail
  refine hpa.mono ?_
  rintro e w1 ⟨⟨P, hP, rfl⟩, x1⟩
  have hP0 := hP 0 (by omega)
  have hnx := next_any (m0.ext x1) hP0.lt (h := 0) (by have := hs.1.fit _ hP0.lt; have := hP0.hi; omega)
  have hfin := Lib.hid (hP0.from_ hs.1 hs.2.1)
  have hix := fun wx => index12 wx P
  clear hpa d0 d1 d2 d3 b1
  go_wp2_with fail
  refine hnx.mono ?_
  rintro e w2 ⟨rfl, n2, rfl⟩
  go_wp2_with fail
  go_ret
  exact ⟨⟨_, rfl, hfin.out⟩, (ext_trans x0 x1).drewN _⟩

set_option maxHeartbeats 4000000 in
theorem size9_any {w : World} {S : Nat → Prop} {g n : Nat} {D : List Int} {N : List Nd} {A : List Nat} {vd vn va : Value} (m : Mx w S g D N A n vd vn va) :
    Calls Try.prog 47 #[.pointer (some ⟨g, 0, none⟩)] w fun e w' => e = .returned (.int .i64 (n : Nat)) ∧ Ext w w' := by
  have b1 : w.cell? ⟨g, 3, none⟩ = some (.int .i64 (n : Nat)) := m.blk.cell 3
  clear m
  go_enter Try.func47, Try.ntmps47
  go_wp2_with fail
  go_ret
  exact ⟨rfl, Mod.refl _ _⟩

set_option maxHeartbeats 4000000 in
theorem len9_any {w : World} {S : Nat → Prop} {g n : Nat} {D : List Int} {N : List Nd} {A : List Nat} {L : List Ce} {vd vn va : Value} (m : Mx w S g D N A n vd vn va) (ok : Ok N A L) (hL : L.length ≤ 1000000) :
    Calls Try.prog 46 #[.pointer (some ⟨g, 0, none⟩)] w fun e w' => e = .returned (.int .i64 (L.length : Nat)) ∧ Ext w w' := by
  have b1 : w.cell? ⟨g, 1, none⟩ = some vn := m.blk.cell 1
  obtain ⟨Bn, cn, hvn, -⟩ := m.n.rc.open_ ndc_len
  rw [hvn] at b1
  clear m hvn
  rcases ok with ⟨rfl, rfl, rfl⟩ | hs
  · go_enter Try.func46, Try.ntmps46
    go_wp2_with fail
    go_ret
    exact ⟨rfl, Mod.refl _ _⟩
  have hl := hs.2.2.1
  rw [hl] at b1
  clear hs hl
  go_enter Try.func46, Try.ntmps46
  go_wp2_with fail
  go_ret
  exact ⟨rfl, Mod.refl _ _⟩
end Go.Proofs.Ytlfooppmdgddkaa
