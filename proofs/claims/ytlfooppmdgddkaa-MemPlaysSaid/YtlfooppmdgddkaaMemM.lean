/- mem: the document's Mem; the law Plays. -/
import Derived.Test.YtlfooppmdgddkaaMemJ
import Derived.Deep.DeepCutAuto
import Derived.Deep.RegionHeld3
import Derived.Deep.CutBlock
namespace Go.Proofs.Ytlfooppmdgddkaa
open Go.RowKit
set_option maxRecDepth 100000

section
variable {P : Program} {w : World} {t e : TypeId} {z : Value} {k bytes : Nat} {ops : Array Oper} {o : Oper} {a : Act} {Q : Exit → Act → World → Prop} {α : Type} {f : α → List Value} {S : Nat → Prop}
theorem run_appRs (hT : SliceTyK P t e z k bytes) (ty : TypeId) {v y : Value} {L M : List α} (hown : OwnR f k w e v L) (hr : Rc f k w S y M) (h1 : ∀ x ∈ M, ∀ u ∈ f x, u.oneCell' = true) (hn : (L.length + M.length) * bytes ≤ 140737488355328) :
    ∃ v' w', (Builtin.append_ #[t, t] ty #[v, y]).run P w = .ok v' w' ∧ OwnR f k w' e v' (L ++ M) ∧ Mod (own v) w w' ∧ Next w.heap.size v v' := by
  obtain ⟨v', w', hrun, h2, h3, h4⟩ := run_appk hT ty hown hr (fun u hu => by obtain ⟨x, hm, hx⟩ := List.mem_flatMap.1 hu; exact h1 x hm u hx) hn
  exact ⟨v', w', hrun, by unfold OwnR; rw [List.length_append, List.flatMap_append]; exact h2, h3, h4⟩
/-- append(v, ys...). -/
theorem wp_appRm {rest : List Oper} (hT : SliceTyK P t e z k bytes) {v y : Value} {L M : List α} (hown : OwnR f k w e v L) (hr : Rc f k w S y M) (h1 : ∀ x ∈ M, ∀ u ∈ f x, u.oneCell' = true) (hn : (L.length + M.length) * bytes ≤ 140737488355328)
    (hgd : o.guard = none) (s x : Operand) (ho : o.op = .call { callee := .builtin .append, args := #[s, x], argTypes := #[t, t] }) (hs : a.eval s = v) (hx : a.eval x = y)
    (h : ∀ v' w', OwnR f k w' e v' (L ++ M) → Mod (own v) w w' → Next w.heap.size v v' → wpList P ops Q rest (a.put o.dst v') w') : wpList P ops Q (o :: rest) a w :=
  wp_appk hT hown hr (fun u hu => by obtain ⟨x, hm, hx⟩ := List.mem_flatMap.1 hu; exact h1 x hm u hx) hgd s x ho hs hx hn fun v' w' k1 k2 k3 => h v' w' (by unfold OwnR; rw [List.length_append, List.flatMap_append]; exact k1) k2 k3
/-- append(v, ys...) at a step of a region that draws. -/
theorem step_appRs {K : Act → World → Prop} {E : Prop} (d : Tmp) (hT : SliceTyK P t e z k bytes) {v y : Value} {L M : List α} (hown : OwnR f k w e v L) (hr : Rc f k w S y M) (h1 : ∀ x ∈ M, ∀ u ∈ f x, u.oneCell' = true) (hn : (L.length + M.length) * bytes ≤ 140737488355328)
    (hgd : o.guard = none) (hd : o.dst = some d) (s yy : Operand) (ho : o.op = .call { callee := .builtin .append, args := #[s, yy], argTypes := #[t, t] }) (hs : a.eval s = v) (hy : a.eval yy = y)
    (h : ∀ v' w', OwnR f k w' e v' (L ++ M) → Mod (own v) w w' → Next w.heap.size v v' → K (a.put o.dst v') w') : if Region.wanted o (yielded ops a.tmps) = true then Oper.wp P o a w K Q else E := by
  have hw : Region.wanted o (yielded ops a.tmps) = true := by simp [Region.wanted, hgd]
  rw [if_pos hw]
  obtain ⟨v', w', hrun, h2, h3, h4⟩ := run_appRs (P := P) hT o.type hown hr h1 hn
  unfold Oper.wp execOp
  simp only [ho, resolve, invoke, builtin, Sem.run_bind, Sem.run_pure, Result.andThen_ok, List.map_toArray, List.map_cons, List.map_nil, hs, hy, hrun]
  simp only [Oper.upon, hd]
  have := h v' w' h2 h3 h4
  rw [hd] at this
  exact this
end
theorem Rc.lit1 {α : Type} {f : α → List Value} {k : Nat} (hf : ∀ x, (f x).length = k) (w : World) (e : TypeId) (x : α) : Rc f k (w.alloc (.cells (f x).toArray e)) (fun b => b = w.heap.size) (.slice (some ⟨w.heap.size, 0, none⟩) 1 1) [x] := by
  have := SlK.one w e (f x) k (hf x)
  unfold Rc
  simpa using this
theorem OwnR.empty {α : Type} (f : α → List Value) (k : Nat) (w : World) (e : TypeId) : OwnR f k (w.alloc (.cells #[] e)) e (.slice (some ⟨w.heap.size, 0, none⟩) 0 0) [] :=
  ⟨by simp, .inr ⟨w.heap.size, 0, #[], rfl, Nat.zero_le _, heap_alloc_new w _, Nat.le_refl _, Nat.zero_le _, by simp, by simp⟩⟩
theorem fresh_new (w : World) (n c : Nat) : Fresh w.heap.size (.slice (some ⟨w.heap.size, 0, none⟩) n c) := fun k hk => by have : w.heap.size = k := Option.some.inj hk; omega

/-- The document's Mem, at g: its cells lie in blocks of S. -/
structure Rm (w : World) (S : Nat → Prop) (g : Nat) (L : List Ce) (v : Value) : Prop where
  blk : Blk w g 55 #[v]
  o : OwnC w v L
  sg : S g
  so : ∀ k, own v k → S k
section
variable {w w' : World} {S T F : Nat → Prop} {g : Nat} {L : List Ce} {v : Value}
theorem Rm.mod (m : Rm w S g L v) (h : Mod F w w') (hF : ∀ k, k < w.heap.size → S k → ¬ F k) : Rm w' S g L v :=
  ⟨m.blk.mod h (hF g m.blk.lt m.sg), m.o.mod h (fun k hk => hF k (m.o.lt hk) (m.so k hk)), m.sg, m.so⟩
theorem Rm.ext (m : Rm w S g L v) (h : Ext w w') : Rm w' S g L v := m.mod h (fun _ _ _ h => h)
theorem Rm.mono (m : Rm w S g L v) (h : ∀ k, k < w.heap.size → S k → T k) : Rm w T g L v :=
  ⟨m.blk, m.o, h g m.blk.lt m.sg, fun k hk => h k (m.o.lt hk) (m.so k hk)⟩
theorem Rm.go (m : Rm w S g L v) {k : Nat} (hk : own v k) : k ≠ g := by
  rintro rfl; obtain ⟨_, h⟩ := OwnK.ty m.o hk; exact absurd (h.ty_eq m.blk) (by decide)
end

set_option maxHeartbeats 8000000 in
theorem rsize9_any {w : World} {S : Nat → Prop} {g : Nat} {L : List Ce} {v : Value} (m : Rm w S g L v) (hC : ∀ c ∈ L, isC c) (hL : L.length ≤ 10000) :
    Calls Try.prog 48 #[.pointer (some ⟨g, 0, none⟩)] w fun e w' => e = .returned (.int .i64 (sizeL L : Nat)) ∧ Ext w w' := by
  obtain ⟨A, c, hv, h1, h2, h3, h4⟩ := m.o.rc.open_ cel_len
  subst hv
  have b0 : w.cell? ⟨g, 0, none⟩ = some (.slice A L.length c) := m.blk.cell 0
  have hb : ∀ {wx : World}, Ext w wx → wx.cell? ⟨g, 0, none⟩ = some (.slice A L.length c) := fun hx => (hx.cell (lt_of_cell b0) (fun h => h)).trans b0
  obtain ⟨n, hn⟩ : ∃ n, n = sizeL L := ⟨_, rfl⟩
  rw [← hn]
  have hle : ∀ k, sizeL (L.take k) ≤ 204960000 := fun k => by
    have := sizeL_le (L := L.take k) (fun c hc => hC c (List.mem_of_mem_take hc))
    rw [List.length_take] at this
    omega
  replace hn := Lib.hid hn
  clear m b0
  go_enter Try.func48, Try.ntmps48
  go_wp2_with fail
  go_loopw [3, 4] (fun x i wr => ∃ k : Nat, k ≤ L.length ∧ i = .int .i64 k ∧ x = .int .i64 (sizeL (L.take k) : Nat) ∧ Ext w wr) (fun _ i _ => L.length - (intOf i).toNat)
  case atStart => exact ⟨0, Nat.zero_le _, rfl, rfl, Mod.refl _ _⟩
  case round =>
    obtain ⟨k, hk, rfl, rfl, x1⟩ := hrel
    have b0 := hb x1
    by_cases hlt : k < L.length
    case neg =>
      have hbl : decide ((k : Int) < (L.length : Int)) = false := dfalse (by omega)
      go_wp2_with fail
      go_ret
      exact ⟨by rw [hn.out, List.take_of_length_le (by omega)]; rfl, x1⟩
    have hbl : decide ((k : Int) < (L.length : Int)) = true := dtrue (by omega)
    obtain ⟨ad, hA, -, c0, c1, c2, c3⟩ := Cs.at_ (h4.ext x1) hlt
    subst hA
    have hi0 : (0 : Int) ≤ (k : Int) := by omega
    have hi1 : (k : Int) < (L.length : Int) := by omega
    have hcx := hC L[k] (List.getElem_mem hlt)
    have hsz := fun wx => rsize_any (w := wx) L[k] ⟨by have := hcx.2.1; omega, by have := hcx.2.2.1; omega⟩
    have hnx : Hid (sizeL (L.take (k + 1)) = sizeL (L.take k) + sizeC L[k]) := Lib.hid (by rw [List.take_succ_eq_append_getElem hlt, sizeL_app]; simp [sizeL])
    have hle1 := hle k
    have hle2 : sizeC L[k] ≤ 30000 := by unfold sizeC; have := hcx.2.1; have := hcx.2.2.1; omega
    obtain ⟨sz, hsze⟩ : ∃ sz, sz = sizeC L[k] := ⟨_, rfl⟩
    rw [show L[k].key.length + L[k].val.length + 16 = sz from hsze.symm] at hsz
    rw [← hsze] at hnx hle2
    clear hsze hcx
    generalize L[k] = x at *
    obtain ⟨s1, hs1⟩ : ∃ s1, s1 = sizeL (L.take k) := ⟨_, rfl⟩
    rw [← hs1] at hnx hle1 ⊢
    clear hs1
    go_wp2_with fail
    refine (hsz _).mono ?_
    rintro e w2 ⟨rfl, x2⟩
    go_wp2_with fail
    exact ⟨⟨k + 1, by omega, by go_num, by rw [hnx.out]; go_num, ext_trans x1 x2⟩, by simp [intOf] <;> omega⟩

set_option maxHeartbeats 8000000 in
theorem rscan_any {w : World} {S : Nat → Prop} {v : Value} {L : List Ce} (h : Cs w S v L) (hL : L.length ≤ 1000000) (a b : List UInt8) :
    Calls Try.prog 44 #[v, sv a, sv b] w fun e w' => ∃ v', e = .returned v' ∧ OwnC w' v' (scanC L a b) ∧ Fresh w.heap.size v' ∧ Ext w w' := by
  obtain ⟨A, c, rfl, h1, h2, h3, h4⟩ := h.open_ cel_len
  obtain ⟨Z, hZ⟩ : ∃ Z, Z = scanC L a b := ⟨_, rfl⟩
  rw [← hZ]
  replace hZ := Lib.hid hZ
  have hbe : (b == []) = b.isEmpty := by cases b <;> rfl
  clear h
  go_enter Try.func44, Try.ntmps44
  go_wp2_with fail
  go_loopw [7, 8] (fun vo i wr => ∃ k : Nat, k ≤ L.length ∧ i = .int .i64 k ∧ OwnC wr vo (scanC (L.take k) a b) ∧ Fresh w.heap.size vo ∧ Ext w wr) (fun _ i _ => L.length - (intOf i).toNat)
  case atStart => exact ⟨0, Nat.zero_le _, rfl, OwnR.nil _ _ _ _, fresh_nil _ _ _, Mod.refl _ _⟩
  case round =>
    obtain ⟨k, hk, rfl, o1, f1, x1⟩ := hrel
    by_cases hlt : k < L.length
    case neg =>
      have hbl : decide ((k : Int) < (L.length : Int)) = false := dfalse (by omega)
      have hZ2 : Hid (Z = scanC (L.take k) a b) := Lib.hid (by rw [hZ.out, List.take_of_length_le (by omega)])
      go_wp2_with fail
      go_ret
      exact ⟨_, rfl, hZ2.out ▸ o1, f1, x1⟩
    have hbl : decide ((k : Int) < (L.length : Int)) = true := dtrue (by omega)
    obtain ⟨ad, hA, -, c0, c1, c2, c3⟩ := Cs.at_ (h4.ext x1) hlt
    subst hA
    have hi0 : (0 : Int) ≤ (k : Int) := by omega
    have hi1 : (k : Int) < (L.length : Int) := by omega
    have hnx : scanC (L.take (k + 1)) a b = if (!Op.bytesLess L[k].key a && (b == [] || Op.bytesLess L[k].key b)) = true then scanC (L.take k) a b ++ [L[k]] else scanC (L.take k) a b := by
      unfold scanC
      rw [List.take_succ_eq_append_getElem hlt, List.filter_append, List.filter_cons, List.filter_nil]
      split
      · rfl
      · rw [List.append_nil]
    have hzl : (scanC (L.take k) a b).length ≤ 1000000 := by
      have := List.length_filter_le (fun c => !Op.bytesLess c.key a && (b == [] || Op.bytesLess c.key b)) (L.take k)
      rw [List.length_take] at this
      unfold scanC
      omega
    have hn1 : Hid (((scanC (L.take k) a b).length + 1) * 48 ≤ 140737488355328) := Lib.hid (by omega)
    generalize L[k] = x at *
    obtain ⟨Y, hY⟩ : ∃ Y, Y = scanC (L.take k) a b := ⟨_, rfl⟩
    obtain ⟨Y', hY'⟩ : ∃ Y', Y' = scanC (L.take (k + 1)) a b := ⟨_, rfl⟩
    rw [← hY, ← hY', hbe] at hnx
    rw [← hY] at o1 hn1
    replace hY' := Lib.hid hY'
    clear hY hzl hbe
    obtain ⟨Ao, co, hvo⟩ := o1.shape
    subst hvo
    cases hb1 : Op.bytesLess x.key a
    case true =>
      have hY2 : Hid (Y' = Y) := Lib.hid (by rw [hnx, hb1]; rfl)
      clear hnx
      go_wp2_with fail
      exact ⟨⟨k + 1, by omega, by go_num, hY'.out ▸ hY2.out ▸ o1, f1, x1⟩, by simp [intOf] <;> omega⟩
    rw [hb1] at hnx
    cases hb2 : b.isEmpty
    case true =>
      have hY2 : Hid (Y' = Y ++ [x]) := Lib.hid (by rw [hnx, hb2]; rfl)
      clear hnx
      go_wp2_with ((with_reducible show wpList _ _ _ (⟨some 41, _, _, _, _, _⟩ :: _) _ _); refine wp_appR (x := x) tyC cel_len o1 rfl (cel_ok _) hn1.out rfl (.tmp 35) (.tmp 40) rfl rfl rfl ?_; intro v6 w6 k1 k2 k3)
      have x6 : Ext w w6 := ext_app0 x1 f1 k2
      have f6 := k3.fresh f1 x1.size
      exact ⟨⟨k + 1, by omega, by go_num, hY'.out ▸ hY2.out ▸ k1, f6, x6⟩, by simp [intOf] <;> omega⟩
    rw [hb2] at hnx
    cases hb3 : Op.bytesLess x.key b
    case false =>
      have hY2 : Hid (Y' = Y) := Lib.hid (by rw [hnx, hb3]; rfl)
      clear hnx
      go_wp2_with fail
      exact ⟨⟨k + 1, by omega, by go_num, hY'.out ▸ hY2.out ▸ o1, f1, x1⟩, by simp [intOf] <;> omega⟩
    have hY2 : Hid (Y' = Y ++ [x]) := Lib.hid (by rw [hnx, hb3]; rfl)
    clear hnx
    go_wp2_with ((with_reducible show wpList _ _ _ (⟨some 41, _, _, _, _, _⟩ :: _) _ _); refine wp_appR (x := x) tyC cel_len o1 rfl (cel_ok _) hn1.out rfl (.tmp 35) (.tmp 40) rfl rfl rfl ?_; intro v6 w6 k1 k2 k3)
    have x6 : Ext w w6 := ext_app0 x1 f1 k2
    have f6 := k3.fresh f1 x1.size
    exact ⟨⟨k + 1, by omega, by go_num, hY'.out ▸ hY2.out ▸ k1, f6, x6⟩, by simp [intOf] <;> omega⟩

theorem ahead_split {L : List Ce} {c : Ce} {k : Nat} (hk : k ≤ L.length) (h1 : ∀ j (hj : j < L.length), j < k → lessC L[j] c = true) (h2 : ∀ hk : k < L.length, lessC L[k] c = false) : L.take k = (L.takeWhile fun x => lessC x c) ∧ L.drop k = fromC L c := by
  have ht : (L.takeWhile fun x => lessC x c) = L.take k := by
    conv => lhs; rw [← List.take_append_drop k L]
    refine take_done (fun x hx => ?_) (fun y R' hR => ?_)
    · obtain ⟨i, hi, rfl⟩ := List.mem_iff_getElem.1 hx
      rw [List.length_take] at hi
      rw [List.getElem_take]
      exact h1 i (by omega) (by omega)
    · have hkl : k < L.length := by
        have := congrArg List.length hR
        rw [List.length_drop] at this
        simp at this
        omega
      rw [List.drop_eq_getElem_cons hkl] at hR
      injection hR with e _
      rw [← e]; exact h2 hkl
  refine ⟨ht.symm, ?_⟩
  have h3 := from_split L c
  rw [ht] at h3
  have h4 := List.take_append_drop k L
  exact List.append_cancel_left (h4.trans h3.symm)

set_option maxHeartbeats 32000000 in
theorem rput_any {w : World} {S : Nat → Prop} {g : Nat} {L : List Ce} {v : Value} (m : Rm w S g L v) (hs : sortedC L) (hL : L.length ≤ 10000) (c : Ce) :
    Calls Try.prog 39 #[.pointer (some ⟨g, 0, none⟩), .agg (car c)] w fun e w' => e = .returned (.bool (putL L c).1) ∧ (∃ v', Rm w' (fun k => S k ∨ w.heap.size ≤ k) g (putL L c).2 v') ∧ Mod (fun k => k = g) w w' := by
  have x0 : Ext w (w.alloc (.cells (car c) 23)) := (Mod.refl _ w).alloc _
  have B0 : Blk (w.alloc (.cells (car c) 23)) w.heap.size 23 (car c) := Blk.new w _ _
  obtain ⟨w0, hw0⟩ : ∃ w0, w0 = w.alloc (.cells (car c) 23) := ⟨_, rfl⟩
  rw [← hw0] at x0 B0
  have d0 : w0.cell? ⟨w.heap.size, 0, none⟩ = some (sv c.key) := B0.cell 0
  have d1 : w0.cell? ⟨w.heap.size, 1, none⟩ = some (sv c.val) := B0.cell 1
  have d2 : w0.cell? ⟨w.heap.size, 2, none⟩ = some (.bool c.del) := B0.cell 2
  have d3 : w0.cell? ⟨w.heap.size, 3, none⟩ = some (.int .i64 c.seq) := B0.cell 3
  replace hw0 := Lib.hid hw0
  obtain ⟨R, hR⟩ : ∃ R, R = putL L c := ⟨_, rfl⟩
  rw [← hR]
  replace hR := Lib.hid hR
  obtain ⟨A, cp, hv, h1, h2, h3, h4⟩ := m.o.rc.open_ cel_len
  have mm := m
  obtain ⟨gb, hgb⟩ : ∃ gb, gb = w.heap.size := ⟨_, rfl⟩
  go_enter Try.func39, Try.ntmps39
  go_upto_region 1 with fail
  rw [← hw0.out]
  go_wp2_with fail
  refine (ris_any c).mono ?_
  rintro e w1 ⟨rfl, x1⟩
  by_cases hic : isC c
  case neg =>
    have hR1 : Hid (R = (false, L)) := Lib.hid (by rw [hR.out]; unfold putL; rw [if_neg (fun h => hic h.1)])
    rw [dfalse hic]
    clear hic hR
    go_wp2_with fail
    go_ret
    exact ⟨by rw [hR1.out]; rfl, ⟨v, by rw [hR1.out]; exact (m.ext (ext_trans x0 x1)).mono (fun k _ h => .inl h)⟩, (ext_trans x0 x1).mono (fun _ _ h => h.elim)⟩
  rw [dtrue hic]
  have m1 := m.ext (ext_trans x0 x1)
  replace B0 := B0.mod x1 (fun h => h)
  have x1' := ext_trans x0 x1
  rw [← hgb] at B0 ⊢
  have hgl : Hid (gb < w1.heap.size ∧ gb = w.heap.size) := Lib.hid ⟨B0.lt, hgb⟩
  clear d0 d1 d2 d3 x1 x0 hgb
  subst hv
  go_upto_block 0 with fail
  go_cut [0, 3, 4, 5] (fun s0 s3 s4 s5 wx => s0 = .pointer (some ⟨g, 0, none⟩) ∧ s3 = .pointer (some ⟨gb, 0, none⟩) ∧ s4 = .bool false ∧ (∃ k : Nat, s5 = .int .i64 (k : Nat) ∧ Hid (k ≤ L.length ∧ (∀ j (hj : j < L.length), j < k → lessC L[j] c = true) ∧ (∀ hk : k < L.length, lessC L[k] c = false))) ∧ Ext w1 wx)
  case first =>
    have b0 : w1.cell? ⟨g, 0, none⟩ = some (.slice A L.length cp) := m1.blk.cell 0
    have hcb : ∀ {wx : World}, Ext w1 wx → wx.cell? ⟨g, 0, none⟩ = some (.slice A L.length cp) ∧ wx.cell? ⟨gb, 0, none⟩ = some (sv c.key) ∧ wx.cell? ⟨gb, 1, none⟩ = some (sv c.val) ∧ wx.cell? ⟨gb, 2, none⟩ = some (.bool c.del) ∧ wx.cell? ⟨gb, 3, none⟩ = some (.int .i64 c.seq) := fun hx => ⟨(hx.cell (lt_of_cell b0) (fun h => h)).trans b0, (B0.mod hx (fun h => h)).cell 0, (B0.mod hx (fun h => h)).cell 1, (B0.mod hx (fun h => h)).cell 2, (B0.mod hx (fun h => h)).cell 3⟩
    clear b0
    go_wp2_with fail
    go_loopw [5] (fun i wr => ∃ k : Nat, i = .int .i64 (k : Nat) ∧ k ≤ L.length ∧ Hid (∀ j (hj : j < L.length), j < k → lessC L[j] c = true) ∧ Ext w1 wr) (fun i _ => L.length - (intOf i).toNat)
    case atStart => exact ⟨0, rfl, Nat.zero_le _, Lib.hid (fun j hj h => by omega), Mod.refl _ _⟩
    case round =>
      obtain ⟨k, rfl, hk, hP, x2⟩ := hrel
      obtain ⟨c0, d0, d1, d2, d3⟩ := hcb x2
      by_cases hlt : k < L.length
      case neg =>
        have hbl : decide ((k : Int) < (L.length : Int)) = false := dfalse (by omega)
        have hfin : Hid (k ≤ L.length ∧ (∀ j (hj : j < L.length), j < k → lessC L[j] c = true) ∧ (∀ hk : k < L.length, lessC L[k] c = false)) := Lib.hid ⟨hk, hP.out, fun h => absurd h hlt⟩
        clear hP
        go_wp2_with fail
        go_quiet (fail)
        go_wp2_with fail
        go_meet
        exact ⟨rfl, rfl, rfl, ⟨k, rfl, hfin⟩, x2.drewN _⟩
      have hbl : decide ((k : Int) < (L.length : Int)) = true := dtrue (by omega)
      obtain ⟨ad, hA, -, e0, e1, e2, e3⟩ := Cs.at_ (h4.ext (ext_trans x1' x2)) hlt
      subst hA
      have hpp : (lessC L[k] c = false → Hid (k ≤ L.length ∧ (∀ j (hj : j < L.length), j < k → lessC L[j] c = true) ∧ (∀ hk : k < L.length, lessC L[k] c = false))) ∧ (lessC L[k] c = true → Hid (∀ j (hj : j < L.length), j < k + 1 → lessC L[j] c = true)) := ⟨fun h => Lib.hid ⟨hk, hP.out, fun _ => h⟩, fun h => Lib.hid (fun j hj h1 => by
          by_cases e : j = k
          · subst e; exact h
          · exact hP.out j hj (by omega))⟩
      obtain ⟨hp1, hp2⟩ := hpp
      obtain ⟨F1, hF1⟩ : ∃ F : Prop, F = (k ≤ L.length ∧ (∀ j (hj : j < L.length), j < k → lessC L[j] c = true) ∧ (∀ hk : k < L.length, lessC L[k] c = false)) := ⟨_, rfl⟩
      rw [← hF1] at hp1
      replace hF1 := Lib.hid hF1
      have hi0 : (0 : Int) ≤ (k : Int) := by omega
      have hi1 : (k : Int) < (L.length : Int) := by omega
      have hls := fun wx => rless_any (w := wx) L[k] c
      have hcx : ∀ {wx : World}, Ext wr wx → wx.cell? (ad.add (k * 4)) = some (sv L[k].key) ∧ wx.cell? ⟨(ad.add (k * 4)).block, (ad.add (k * 4)).off + 1, none⟩ = some (sv L[k].val) ∧ wx.cell? ⟨(ad.add (k * 4)).block, (ad.add (k * 4)).off + 2, none⟩ = some (.bool L[k].del) ∧ wx.cell? ⟨(ad.add (k * 4)).block, (ad.add (k * 4)).off + 3, none⟩ = some (.int .i64 L[k].seq) := fun hx => ⟨(hx.cell (lt_of_cell e0) (fun h => h)).trans e0, (hx.cell (lt_of_cell e1) (fun h => h)).trans e1, (hx.cell (lt_of_cell e2) (fun h => h)).trans e2, (hx.cell (lt_of_cell e3) (fun h => h)).trans e3⟩
      clear hP e0 e1 e2 e3
      generalize L[k] = x at *
      have hcc : ∀ {wx : World}, Ext wr wx → (wx.cell? ⟨g, 0, none⟩ = some (.slice (some ad) L.length cp) ∧ wx.cell? ⟨gb, 0, none⟩ = some (sv c.key) ∧ wx.cell? ⟨gb, 1, none⟩ = some (sv c.val) ∧ wx.cell? ⟨gb, 2, none⟩ = some (.bool c.del) ∧ wx.cell? ⟨gb, 3, none⟩ = some (.int .i64 c.seq)) ∧ wx.cell? (ad.add (k * 4)) = some (sv x.key) ∧ wx.cell? ⟨(ad.add (k * 4)).block, (ad.add (k * 4)).off + 1, none⟩ = some (sv x.val) ∧ wx.cell? ⟨(ad.add (k * 4)).block, (ad.add (k * 4)).off + 2, none⟩ = some (.bool x.del) ∧ wx.cell? ⟨(ad.add (k * 4)).block, (ad.add (k * 4)).off + 3, none⟩ = some (.int .i64 x.seq) := fun hx => ⟨hcb (ext_trans x2 hx), hcx hx⟩
      have q0 : Ext wr wr.drew := (Mod.refl _ wr).drew
      clear hcb hcx c0 d0 d1 d2 d3
      obtain ⟨⟨c0, d0, d1, d2, d3⟩, e0, e1, e2, e3⟩ := hcc (Mod.refl _ wr)
      cases hlc : lessC x c
      all_goals rw [hlc] at hls
      case false =>
        have hfin := hp1 hlc
        clear hp1 hp2 hlc
        go_wp2_with fail
        go_region_held3 (fun wx => (wx.cell? ⟨g, 0, none⟩ = some (.slice (some ad) L.length cp) ∧ wx.cell? ⟨gb, 0, none⟩ = some (sv c.key) ∧ wx.cell? ⟨gb, 1, none⟩ = some (sv c.val) ∧ wx.cell? ⟨gb, 2, none⟩ = some (.bool c.del) ∧ wx.cell? ⟨gb, 3, none⟩ = some (.int .i64 c.seq)) ∧ wx.cell? (ad.add (k * 4)) = some (sv x.key) ∧ wx.cell? ⟨(ad.add (k * 4)).block, (ad.add (k * 4)).off + 1, none⟩ = some (sv x.val) ∧ wx.cell? ⟨(ad.add (k * 4)).block, (ad.add (k * 4)).off + 2, none⟩ = some (.bool x.del) ∧ wx.cell? ⟨(ad.add (k * 4)).block, (ad.add (k * 4)).off + 3, none⟩ = some (.int .i64 x.seq)) (first | exact hcc q0 | exact hcc q1) (first
          | (go_at_call 21; (with_reducible refine (hls _).mono ?_); rintro e w4 ⟨rfl, x4⟩; have q1 := ext_trans q0 x4))
        all_goals go_wp2_with fail
        all_goals go_meet
        all_goals exact ⟨rfl, rfl, rfl, ⟨k, rfl, hF1.out ▸ hfin⟩, ext_trans x2 q1⟩
      have hfin := hp2 hlc
      clear hp1 hp2 hlc
      go_wp2_with fail
      go_region_held3 (fun wx => (wx.cell? ⟨g, 0, none⟩ = some (.slice (some ad) L.length cp) ∧ wx.cell? ⟨gb, 0, none⟩ = some (sv c.key) ∧ wx.cell? ⟨gb, 1, none⟩ = some (sv c.val) ∧ wx.cell? ⟨gb, 2, none⟩ = some (.bool c.del) ∧ wx.cell? ⟨gb, 3, none⟩ = some (.int .i64 c.seq)) ∧ wx.cell? (ad.add (k * 4)) = some (sv x.key) ∧ wx.cell? ⟨(ad.add (k * 4)).block, (ad.add (k * 4)).off + 1, none⟩ = some (sv x.val) ∧ wx.cell? ⟨(ad.add (k * 4)).block, (ad.add (k * 4)).off + 2, none⟩ = some (.bool x.del) ∧ wx.cell? ⟨(ad.add (k * 4)).block, (ad.add (k * 4)).off + 3, none⟩ = some (.int .i64 x.seq)) (first | exact hcc q0 | exact hcc q1) (first
        | (go_at_call 21; (with_reducible refine (hls _).mono ?_); rintro e w4 ⟨rfl, x4⟩; have q1 := ext_trans q0 x4))
      all_goals go_wp2_with fail
      all_goals exact ⟨⟨k + 1, by go_num, by omega, hfin, ext_trans x2 q1⟩, by simp [intOf] <;> omega⟩
  case rest =>
    obtain ⟨rfl, rfl, rfl, ⟨k, rfl, hk⟩, x2⟩ := hcut
    obtain ⟨w2, hw2⟩ : ∃ x, x = wc := ⟨_, rfl⟩
    subst hw2
    obtain ⟨hsp1, hsp2⟩ := ahead_split hk.out.1 hk.out.2.1 hk.out.2.2
    have hkl := hk.out.1
    have B2 := B0.mod x2 (fun h => h)
    have m2 := m1.ext x2
    have xw := ext_trans x1' x2
    have hs2 := xw.size
    have hsz1 := x1'.size
    have b0 : w2.cell? ⟨g, 0, none⟩ = some (.slice A L.length cp) := m2.blk.cell 0
    obtain ⟨fb, hfb⟩ : ∃ fb, fb = decide (∃ hk : k < L.length, L[k].key = c.key ∧ L[k].seq = c.seq) := ⟨_, rfl⟩
    have hfh : Hid (fb = true ↔ hasC L c) := Lib.hid (by
      rw [hfb, decide_eq_true_eq]
      constructor
      · rintro ⟨h, h1, h2⟩
        exact ⟨_, List.getElem_mem h, h1, h2⟩
      · rintro ⟨d, hd, h1, h2⟩
        have hdc : lessC d c = false := lessC_one ⟨h1, h2⟩
        have hdm : d ∈ L.drop k := by
          rw [← List.take_append_drop k L] at hd
          rcases List.mem_append.1 hd with h | h
          · rw [hsp1] at h
            have := take_all _ L h
            rw [hdc] at this; cases this
          · exact h
        have hkk : k < L.length := by
          have : 0 < (L.drop k).length := List.length_pos_of_mem hdm
          rw [List.length_drop] at this; omega
        refine ⟨hkk, ?_⟩
        have hst := hk.out.2.2 hkk
        rw [List.drop_eq_getElem_cons hkk] at hdm
        rcases List.mem_cons.1 hdm with e | e
        · rw [← e]; exact ⟨h1, h2⟩
        · have hpw : sortedC (L.drop k) := List.Pairwise.sublist (List.drop_sublist _ _) hs
          rw [List.drop_eq_getElem_cons hkk] at hpw
          have h3 := (List.pairwise_cons.1 hpw).1 d e
          rw [lessC_congr (a' := L[k]) (b' := c) rfl rfl h1 h2, hst] at h3; cases h3)
    go_upto_region 6 with fail
    go_cut [0, 3, 4, 5, 62] (fun s0 s3 s4 s5 s62 wx => s0 = .pointer (some ⟨g, 0, none⟩) ∧ s3 = .pointer (some ⟨gb, 0, none⟩) ∧ s4 = .bool false ∧ s5 = .int .i64 (k : Nat) ∧ s62 = .bool fb ∧ Ext w2 wx)
    case first =>
      clear hfh hsp1 hsp2
      have d0 : w2.cell? ⟨gb, 0, none⟩ = some (sv c.key) := B2.cell 0
      have d3 : w2.cell? ⟨gb, 3, none⟩ = some (.int .i64 c.seq) := B2.cell 3
      by_cases hlt : k < L.length
      case neg =>
        have hbl : decide ((k : Int) < (L.length : Int)) = false := dfalse (by omega)
        have hf : Hid (fb = false) := Lib.hid (by rw [hfb, decide_eq_false_iff_not]; rintro ⟨h, _⟩; exact hlt h)
        clear hfb
        go_wp2_with fail
        go_quiet (fail)
        go_wp2_with fail
        go_meet
        exact ⟨rfl, rfl, rfl, rfl, by rw [hf.out], (Mod.refl _ _).drewN _⟩
      have hbl : decide ((k : Int) < (L.length : Int)) = true := dtrue (by omega)
      obtain ⟨ad, hA, -, e0, e1, e2, e3⟩ := Cs.at_ (h4.ext xw) hlt
      subst hA
      have hi0 : (0 : Int) ≤ (k : Int) := by omega
      have hi1 : (k : Int) < (L.length : Int) := by omega
      have hfb2 : fb = decide (L[k].key = c.key ∧ L[k].seq = c.seq) := by
        rw [hfb, decide_eq_decide]
        exact ⟨fun ⟨_, h⟩ => h, fun h => ⟨hlt, h⟩⟩
      clear hfb hk
      generalize L[k] = x at *
      by_cases hkk : x.key = c.key
      case neg =>
        have hb1 : (x.key == c.key) = false := by rw [beq_eq_false_iff_ne]; exact hkk
        have hf : Hid (fb = false) := Lib.hid (by rw [hfb2, decide_eq_false_iff_not]; exact fun h => hkk h.1)
        clear hfb2 hkk
        go_wp2_with fail
        go_quiet (fail)
        go_wp2_with fail
        go_meet
        exact ⟨rfl, rfl, rfl, rfl, by rw [hf.out], (Mod.refl _ _).drewN _⟩
      have hb1 : (x.key == c.key) = true := by rw [beq_iff_eq]; exact hkk
      obtain ⟨bq, hbq⟩ : ∃ bq, bq = (x.seq == c.seq) := ⟨_, rfl⟩
      have hbq2 := hbq.symm
      have hf : Hid (fb = bq) := Lib.hid (by
        rw [hfb2, hbq, Bool.eq_iff_iff, decide_eq_true_eq, beq_iff_eq]
        exact ⟨fun h => h.2, fun h => ⟨hkk, h⟩⟩)
      clear hfb2 hbq hkk
      go_wp2_with fail
      go_quiet (fail)
      go_wp2_with fail
      go_meet
      exact ⟨rfl, rfl, rfl, rfl, by rw [hf.out], (Mod.refl _ _).drewN _⟩
    case rest =>
      obtain ⟨rfl, rfl, rfl, rfl, rfl, x3⟩ := hcut
      obtain ⟨w3, hw3⟩ : ∃ x, x = wc := ⟨_, rfl⟩
      subst hw3
      have B3 := B2.mod x3 (fun h => h)
      have m3 := m2.ext x3
      have xw3 := ext_trans xw x3
      have hs3 := x3.size
      clear hfb b0 B2 B0 m1 m2 x2 x3 xw
      cases fb
      case true =>
        have hR1 : Hid (R = (false, L)) := Lib.hid (by rw [hR.out]; unfold putL; rw [if_neg (fun h => h.2 (hfh.out.1 rfl))])
        go_wp2_with fail
        go_ret
        exact ⟨by rw [hR1.out]; rfl, ⟨_, by rw [hR1.out]; exact m3.mono (fun k _ h => .inl h)⟩, xw3.mono (fun _ _ h => h.elim)⟩
      have hR1 : Hid (R = (true, insC L c)) := Lib.hid (by rw [hR.out]; unfold putL; rw [if_pos ⟨hic, fun h => by have := hfh.out.2 h; cases this⟩])
      have hins : Hid (insC L c = (L.take k ++ [c]) ++ L.drop k) := Lib.hid (by unfold insC; rw [← hsp1, ← hsp2, List.append_assoc]; rfl)
      clear hsp1 hsp2 hfh hR
      have b0 : w3.cell? ⟨g, 0, none⟩ = some (.slice A L.length cp) := m3.blk.cell 0
      have rc3 := m3.o.rc
      have hi0 : (0 : Int) ≤ (k : Int) := by omega
      have hi1 : (k : Int) ≤ (cp : Int) := by omega
      have hi2 : (k : Int) ≤ (L.length : Int) := by omega
      have hcc : ∀ {wx : World}, Ext w3 wx → wx.cell? ⟨g, 0, none⟩ = some (.slice A L.length cp) ∧ wx.cell? ⟨gb, 0, none⟩ = some (sv c.key) ∧ wx.cell? ⟨gb, 1, none⟩ = some (sv c.val) ∧ wx.cell? ⟨gb, 2, none⟩ = some (.bool c.del) ∧ wx.cell? ⟨gb, 3, none⟩ = some (.int .i64 c.seq) := fun hx => ⟨(hx.cell (lt_of_cell b0) (fun h => h)).trans b0, (B3.mod hx (fun h => h)).cell 0, (B3.mod hx (fun h => h)).cell 1, (B3.mod hx (fun h => h)).cell 2, (B3.mod hx (fun h => h)).cell 3⟩
      go_upto_region 8 with fail
      go_cut [0, 3, 4, 5, 6] (fun s0 s3 s4 s5 s6 wx => s0 = .pointer (some ⟨g, 0, none⟩) ∧ s3 = .pointer (some ⟨gb, 0, none⟩) ∧ s4 = .bool false ∧ s5 = .int .i64 (k : Nat) ∧ OwnC wx s6 (([] ++ L.take k) ++ [c]) ∧ Fresh w3.heap.size s6 ∧ Ext w3 wx)
      case first =>
        obtain ⟨c0, d0, d1, d2, d3⟩ := hcc (Mod.refl _ w3)
        have q0 : Ext w3 w3.drew := (Mod.refl _ w3).drew
        have rT : Rc cel 4 w3 (own (.slice A L.length cp)) (.slice A k cp) (L.take k) := Rc.begin cel_len rc3 hkl
        have oA := OwnR.empty cel 4 w3.drew 23
        have fA := fresh_new w3.drew 0 0
        have oB := (OwnR.empty cel 4 w3.drew 23).alloc (.cells #[sv c.key, sv c.val, .bool c.del, .int .i64 c.seq] 23)
        have oC := OwnR.empty cel 4 (w3.drew.alloc (.cells #[sv c.key, sv c.val, .bool c.del, .int .i64 c.seq] 23)) 23
        have eX : Rc cel 4 (w3.drew.alloc (.cells #[sv c.key, sv c.val, .bool c.del, .int .i64 c.seq] 23)) (fun b => b = w3.drew.heap.size) (.slice (some ⟨w3.drew.heap.size, 0, none⟩) 1 1) [c] := Rc.lit1 cel_len w3.drew 23 c
        have eB : Rc cel 4 ((w3.drew.alloc (.cells #[] 23)).alloc (.cells #[sv c.key, sv c.val, .bool c.del, .int .i64 c.seq] 23)) (fun b => b = (w3.drew.alloc (.cells #[] 23)).heap.size) (.slice (some ⟨(w3.drew.alloc (.cells #[] 23)).heap.size, 0, none⟩) 1 1) [c] := Rc.lit1 cel_len (w3.drew.alloc (.cells #[] 23)) 23 c
        have zE : (w3.drew.alloc (.cells #[] 23)).heap.size = w3.drew.heap.size + 1 := by simp
        have zX : (w3.drew.alloc (.cells #[sv c.key, sv c.val, .bool c.del, .int .i64 c.seq] 23)).heap.size = w3.drew.heap.size + 1 := by simp
        rw [zE] at eB
        rw [zX] at oC
        clear zE zX
        have fC : Fresh w3.drew.heap.size (.slice (some ⟨w3.drew.heap.size + 1, 0, none⟩) 0 0) := fun k hk => by have : w3.drew.heap.size + 1 = k := Option.some.inj hk; omega
        have qE : Ext w3 (w3.drew.alloc (.cells #[] 23)) := q0.alloc _
        have qX : Ext w3 (w3.drew.alloc (.cells #[sv c.key, sv c.val, .bool c.del, .int .i64 c.seq] 23)) := q0.alloc _
        have qEX : Ext w3 ((w3.drew.alloc (.cells #[] 23)).alloc (.cells #[sv c.key, sv c.val, .bool c.del, .int .i64 c.seq] 23)) := qE.alloc _
        have qXE : Ext w3 ((w3.drew.alloc (.cells #[sv c.key, sv c.val, .bool c.del, .int .i64 c.seq] 23)).alloc (.cells #[] 23)) := qX.alloc _
        have rA := rT.ext qE
        have rB := rT.ext qEX
        have rC := rT.ext qXE
        have okA : ∀ x ∈ [c], ∀ u ∈ cel x, u.oneCell' = true := fun x _ => cel_ok x
        have okC : ∀ x ∈ L.take k, ∀ u ∈ cel x, u.oneCell' = true := fun x _ => cel_ok x
        have n1 : (([] : List Ce).length + (L.take k).length) * 48 ≤ 140737488355328 := by rw [List.length_take]; simp only [List.length_nil]; omega
        have n2 : ((([] : List Ce) ++ L.take k).length + [c].length) * 48 ≤ 140737488355328 := by rw [List.nil_append, List.length_take]; simp only [List.length_cons, List.length_nil]; omega
        replace okC := Lib.hid okC
        replace okA := Lib.hid okA
        replace n1 := Lib.hid n1
        replace n2 := Lib.hid n2
        clear hk m mm m3 rc3 rT hR1 hins B3
        go_region_held3 (fun wx => wx.cell? ⟨g, 0, none⟩ = some (.slice A L.length cp) ∧ wx.cell? ⟨gb, 0, none⟩ = some (sv c.key) ∧ wx.cell? ⟨gb, 1, none⟩ = some (sv c.val) ∧ wx.cell? ⟨gb, 2, none⟩ = some (.bool c.del) ∧ wx.cell? ⟨gb, 3, none⟩ = some (.int .i64 c.seq)) (first | exact hcc q0 | exact hcc (q0.alloc _) | exact hcc ((q0.alloc _).alloc _) | exact hcc q1 | exact hcc (q1.alloc _) | exact hcc q2) (first
          | (refine step_appRs 70 tyC oA rA okC.out n1.out rfl rfl (.tmp 63) (.tmp 69) rfl rfl rfl ?_; intro va wa ka1 ka2 ka3; have q1 := ext_app0 qE fA ka2; have ga := ka3.fresh fA qE.size; have eA : Rc cel 4 (wa.alloc (.cells #[sv c.key, sv c.val, .bool c.del, .int .i64 c.seq] 23)) (fun b => b = wa.heap.size) (.slice (some ⟨wa.heap.size, 0, none⟩) 1 1) [c] := Rc.lit1 cel_len wa 23 c)
          | (refine step_appRs 70 tyC oB rB okC.out n1.out rfl rfl (.tmp 63) (.tmp 69) rfl rfl rfl ?_; intro vb wb kb1 kb2 kb3; have q1 := ext_app0 qEX fA kb2; have gb := kb3.fresh fA qEX.size; have eB2 := eB.mod kb2 (fun b _ hb hF => by have h1 : w3.drew.heap.size = b := Option.some.inj hF; omega))
          | (refine step_appRs 70 tyC oC rC okC.out n1.out rfl rfl (.tmp 63) (.tmp 69) rfl rfl rfl ?_; intro vc wc kc1 kc2 kc3; have q1 := ext_app0 qXE fC kc2; have gc := kc3.fresh fC qXE.size; have eC2 := (eX.ext ((Mod.refl _ (w3.drew.alloc (.cells #[sv c.key, sv c.val, .bool c.del, .int .i64 c.seq] 23))).alloc _)).mod kc2 (fun b _ hb hF => by have h1 : w3.drew.heap.size + 1 = b := Option.some.inj hF; omega))
          | (refine step_appRs 73 tyC (ka1.alloc _) eA okA.out n2.out rfl rfl (.tmp 70) (.tmp 72) rfl rfl rfl ?_; intro vd wd kd1 kd2 kd3; have q2 := ext_app0 (q1.alloc _) ga kd2; have gd := kd3.fresh ga (q1.alloc _).size)
          | (refine step_appRs 73 tyC kb1 eB2 okA.out n2.out rfl rfl (.tmp 70) (.tmp 72) rfl rfl rfl ?_; intro vd wd kd1 kd2 kd3; have q2 := ext_app0 q1 gb kd2; have gd := kd3.fresh gb q1.size)
          | (refine step_appRs 73 tyC kc1 eC2 okA.out n2.out rfl rfl (.tmp 70) (.tmp 72) rfl rfl rfl ?_; intro vd wd kd1 kd2 kd3; have q2 := ext_app0 q1 gc kd2; have gd := kd3.fresh gc q1.size))
        all_goals go_wp2_with fail
        all_goals go_meet
        all_goals exact ⟨rfl, rfl, rfl, rfl, kd1, gd, q2⟩
      case rest =>
        obtain ⟨rfl, rfl, rfl, rfl, o6, f6, x6⟩ := hcut
        obtain ⟨w6, hw6⟩ : ∃ x, x = wc := ⟨_, rfl⟩
        subst hw6
        obtain ⟨s6, hs6⟩ : ∃ x, x = u6 := ⟨_, rfl⟩
        subst hs6
        have m6 := m3.ext x6
        have b6 : w6.cell? ⟨g, 0, none⟩ = some (.slice A L.length cp) := m6.blk.cell 0
        have hs6 := x6.size
        obtain ⟨Y, hY⟩ : ∃ Y, Y = ([] ++ L.take k) ++ [c] := ⟨_, rfl⟩
        rw [← hY] at o6
        have hYl : Y.length ≤ 10001 := by rw [hY]; simp; omega
        have hn9 : Hid ((Y.length + (L.drop k).length) * 48 ≤ 140737488355328) := Lib.hid (by rw [List.length_drop]; omega)
        have hins2 : Hid (insC L c = Y ++ L.drop k) := Lib.hid (by rw [hins.out, hY]; simp)
        have hfin : ∀ (w9 : World) (A9 : Option Addr) (n9 c9 : Nat), OwnC w9 (.slice A9 n9 c9) (Y ++ L.drop k) → Mod (own s6) w6 w9 → Next w6.heap.size s6 (.slice A9 n9 c9) → Hid (w9.cell? ⟨g, 0, none⟩ = some (.slice A L.length cp) ∧ w9.frozen? ⟨g, 0, none⟩ = false ∧ Rm (w9.setCell ⟨g, 0, none⟩ (.slice A9 n9 c9)) (fun k => S k ∨ w.heap.size ≤ k) g (insC L c) (.slice A9 n9 c9) ∧ Mod (fun k => k = g) w (w9.setCell ⟨g, 0, none⟩ (.slice A9 n9 c9))) := by
          intro w9 A9 n9 c9 k1 k2 k3
          have hg6 : g < w3.heap.size := m3.blk.lt
          have hgw : g < w.heap.size := m.blk.lt
          have hgf : ∀ b, own s6 b → w3.heap.size ≤ b := fun b hb => f6 b hb
          have b9 := m6.blk.mod k2 (fun hb => by have := hgf _ hb; omega)
          have f9 : Fresh w3.heap.size (.slice A9 n9 c9) := k3.fresh f6 x6.size
          have x9 : Ext w w9 := (ext_trans xw3 x6).trans k2 (fun _ _ h => h) (fun b hb h => by have := hgf b h; have := xw3.size; omega)
          refine Lib.hid ⟨b9.cell 0, b9.frozen 0, ⟨b9.set_ 0 _, ?_, .inl m.sg, fun b hb => .inr (by have := f9 b hb; have := xw3.size; omega)⟩, x9.trans (setg_mod w9 g 0 _) (fun _ _ h => h.elim) (fun _ _ h => h)⟩
          rw [hins2.out]
          exact k1.mod (setg_mod w9 g 0 _) (fun b hb e => by have := f9 b hb; omega)
        obtain ⟨A6, c6, hv6⟩ := o6.shape
        by_cases hck : cp = k
        case pos =>
          have rR : Rc cel 4 w6 (own (.slice A L.length cp)) (.slice A (L.length - k) 0) (L.drop k) := Rc.rest0 m6.o.rc hkl hck
          have hck2 : (cp : Int) - (k : Int) = 0 := by omega
          have hlk : L.length - k = 0 := by omega
          clear hk hY hins hins2 m mm m3 rc3
          subst hv6
          cases A with
          | none =>
            have hc0 : cp = 0 := h3 rfl
            have hk0 : k = 0 := by omega
            have hl0 : L.length = 0 := by omega
            have hLn : L = [] := List.eq_nil_of_length_eq_zero hl0
            subst hc0
            subst hk0
            subst hLn
            go_wp2_with ((with_reducible show wpList _ _ _ (⟨some 82, _, _, _, _, _⟩ :: _) _ _); refine wp_appRm tyC o6 rR (fun x _ => cel_ok x) hn9.out rfl (.tmp 75) (.tmp 81) rfl rfl rfl ?_; intro v9 w9 k1 k2 k3; obtain ⟨A9, c9, hv9⟩ := k1.shape; subst hv9; obtain ⟨r1, r2, r3, r4⟩ := (hfin w9 _ _ _ k1 k2 k3).out)
            rw [List.length_append] at r3 r4
            go_wp2_with fail
            go_ret
            exact ⟨by rw [hR1.out]; rfl, ⟨_, by rw [hR1.out]; exact r3⟩, r4⟩
          | some ad =>
            rw [hlk] at rR
            go_wp2_with ((with_reducible show wpList _ _ _ (⟨some 82, _, _, _, _, _⟩ :: _) _ _); refine wp_appRm tyC o6 rR (fun x _ => cel_ok x) hn9.out rfl (.tmp 75) (.tmp 81) rfl rfl rfl ?_; intro v9 w9 k1 k2 k3; obtain ⟨A9, c9, hv9⟩ := k1.shape; subst hv9; obtain ⟨r1, r2, r3, r4⟩ := (hfin w9 _ _ _ k1 k2 k3).out)
            rw [List.length_append, List.length_drop, hlk, Nat.add_zero] at r3 r4
            go_wp2_with fail
            go_ret
            exact ⟨by rw [hR1.out]; rfl, ⟨_, by rw [hR1.out]; exact r3⟩, r4⟩
        case neg =>
          obtain ⟨ad, hA⟩ : ∃ ad, A = some ad := by
            cases A with
            | none => exact absurd (by have := h3 rfl; omega) hck
            | some ad => exact ⟨ad, rfl⟩
          subst hA
          have rR : Rc cel 4 w6 (own (.slice (some ad) L.length cp)) (.slice ((some ad).map (fun x => x.add (k * 4))) (L.length - k) (cp - k)) (L.drop k) := Rc.rest cel_len m6.o.rc hkl
          clear hk hY hins hins2 m mm m3 rc3
          subst hv6
          go_wp2_with ((with_reducible show wpList _ _ _ (⟨some 82, _, _, _, _, _⟩ :: _) _ _); refine wp_appRm tyC o6 rR (fun x _ => cel_ok x) hn9.out rfl (.tmp 75) (.tmp 81) rfl rfl rfl ?_; intro v9 w9 k1 k2 k3; obtain ⟨A9, c9, hv9⟩ := k1.shape; subst hv9; obtain ⟨r1, r2, r3, r4⟩ := (hfin w9 _ _ _ k1 k2 k3).out)
          rw [List.length_append, List.length_drop] at r3 r4
          go_wp2_with fail
          go_ret
          exact ⟨by rw [hR1.out]; rfl, ⟨_, by rw [hR1.out]; exact r3⟩, r4⟩
end Go.Proofs.Ytlfooppmdgddkaa
