/- rows of records appended; the document's Scan. -/
import Derived.Test.YthohghnfiicndaaDoorMemB
import Derived.Test.YthohghnfiicndaaDoorCelV
import Derived.Deep.DeepCutAuto
import Derived.Deep.RegionHeld3
import Derived.Deep.CutBlock
import Derived.Laws.Cover1
namespace Go.Proofs.YthohghnfiicndaaDoor
open Go.RowKit
set_option maxRecDepth 100000

section
variable {P : Program} {w : World} {t e : TypeId} {z : Value} {k bytes : Nat} {ops : Array Oper} {o : Oper} {a : Act} {Q : Exit → Act → World → Prop} {α : Type} {f : α → List Value} {S : Nat → Prop}
theorem run_appRs (hT : SliceTyK P t e z k bytes) (ty : TypeId) {v y : Value} {L M : List α} (hown : OwnR f k w e v L) (hr : Rc f k w S y M) (h1 : ∀ x ∈ M, ∀ u ∈ f x, u.oneCell' = true) (hn : (L.length + M.length) * bytes ≤ 140737488355328) :
    ∃ v' w', (Builtin.append_ #[t, t] ty #[v, y]).run P w = .ok v' w' ∧ OwnR f k w' e v' (L ++ M) ∧ Mod (own v) w w' ∧ Next w.heap.size v v' := by
  obtain ⟨v', w', hrun, h2, h3, h4⟩ := run_appk hT ty hown hr (fun u hu => by obtain ⟨x, hm, hx⟩ := List.mem_flatMap.1 hu; exact h1 x hm u hx) hn
  exact ⟨v', w', hrun, by unfold OwnR; rw [List.length_append, List.flatMap_append]; exact h2, h3, h4⟩
/-- append(v, ys...). -/
theorem wp_appRm {rest : List Oper} (hT : SliceTyK P t e z k bytes) {v y : Value} {L M : List α} (hown : OwnR f k w e v L) (hr : Rc f k w S y M) (h1 : ∀ x ∈ M, ∀ u ∈ f x, u.oneCell' = true) (hn : (L.length + M.length) * bytes ≤ 140737488355328)
    (hgd : o.guard = none) (s x : Operand) (ho : o.op = .call { callee := .builtin .append, args := #[s, x], argTypes := #[t, t] }) (hs : a.eval s = v) (hx : a.eval x = y)
    (h : ∀ v' w', OwnR f k w' e v' (L ++ M) → Mod (own v) w w' → Next w.heap.size v v' → wpList P ops Q rest (a.put o.dst v') w') : wpList P ops Q (o :: rest) a w :=
  wp_appk hT hown hr (fun u hu => by obtain ⟨x, hm, hx⟩ := List.mem_flatMap.1 hu; exact h1 x hm u hx) hgd s x ho hs hx hn fun v' w' k1 k2 k3 => h v' w' (by unfold OwnR; rw [List.length_append, List.flatMap_append]; exact k1) k2 k3
/-- append(v, ys...) at a step of a region that draws. -/
theorem step_appRs {K : Act → World → Prop} {E : Prop} (d : Tmp) (hT : SliceTyK P t e z k bytes) {v y : Value} {L M : List α} (hown : OwnR f k w e v L) (hr : Rc f k w S y M) (h1 : ∀ x ∈ M, ∀ u ∈ f x, u.oneCell' = true) (hn : (L.length + M.length) * bytes ≤ 140737488355328)
    (hgd : o.guard = none) (hd : o.dst = some d) (s yy : Operand) (ho : o.op = .call { callee := .builtin .append, args := #[s, yy], argTypes := #[t, t] }) (hs : a.eval s = v) (hy : a.eval yy = y)
    (h : ∀ v' w', OwnR f k w' e v' (L ++ M) → Mod (own v) w w' → Next w.heap.size v v' → K (a.put o.dst v') w') : if Region.wanted o (yielded ops a.tmps) = true then Oper.wp P o a w K Q else E := by
  have hw : Region.wanted o (yielded ops a.tmps) = true := by simp [Region.wanted, hgd]
  rw [if_pos hw]
  obtain ⟨v', w', hrun, h2, h3, h4⟩ := run_appRs (P := P) hT o.type hown hr h1 hn
  unfold Oper.wp execOp
  simp only [ho, resolve, invoke, builtin, Sem.run_bind, Sem.run_pure, Result.andThen_ok, List.map_toArray, List.map_cons, List.map_nil, hs, hy, hrun]
  simp only [Oper.upon, hd]
  have := h v' w' h2 h3 h4
  rw [hd] at this
  exact this
theorem Rc.lit1 {α : Type} {f : α → List Value} {k : Nat} (hf : ∀ x, (f x).length = k) (w : World) (e : TypeId) (x : α) : Rc f k (w.alloc (.cells (f x).toArray e)) (fun b => b = w.heap.size) (.slice (some ⟨w.heap.size, 0, none⟩) 1 1) [x] := by
  have := SlK.one w e (f x) k (hf x)
  unfold Rc
  simpa using this
theorem OwnR.empty {α : Type} (f : α → List Value) (k : Nat) (w : World) (e : TypeId) : OwnR f k (w.alloc (.cells #[] e)) e (.slice (some ⟨w.heap.size, 0, none⟩) 0 0) [] :=
  ⟨by simp, .inr ⟨w.heap.size, 0, #[], rfl, Nat.zero_le _, heap_alloc_new w _, Nat.le_refl _, Nat.zero_le _, by simp, by simp⟩⟩
theorem fresh_new (w : World) (n c : Nat) : Fresh w.heap.size (.slice (some ⟨w.heap.size, 0, none⟩) n c) := fun k hk => by have : w.heap.size = k := Option.some.inj hk; omega
set_option maxHeartbeats 8000000 in
theorem rscan_any {w : World} {S : Nat → Prop} {v : Value} {L : List Ce} (h : Cs w S v L) (hL : L.length ≤ 1000000) (a b : List UInt8) :
    Calls Tryd.prog 24 #[v, sv a, sv b] w fun e w' => ∃ v', e = .returned v' ∧ OwnC w' v' (scanC L a b) ∧ Fresh w.heap.size v' ∧ Ext w w' := by
  obtain ⟨A, c, rfl, h1, h2, h3, h4⟩ := h.open_ cel_len
  obtain ⟨Z, hZ⟩ : ∃ Z, Z = scanC L a b := ⟨_, rfl⟩
  rw [← hZ]
  replace hZ := Lib.hid hZ
  have hbe : (b == []) = b.isEmpty := by cases b <;> rfl
  clear h
  go_enter Tryd.func24, Tryd.ntmps24
  go_wp2_with fail
  go_loopw [7, 8] (fun vo i wr => ∃ k : Nat, k ≤ L.length ∧ i = .int .i64 k ∧ OwnC wr vo (scanC (L.take k) a b) ∧ Fresh w.heap.size vo ∧ Ext w wr) (fun _ i _ => L.length - (intOf i).toNat)
  case atStart => exact ⟨0, Nat.zero_le _, rfl, OwnR.nil _ _ _ _, fresh_nil _ _ _, Mod.refl _ _⟩
  case round =>
    obtain ⟨k, hk, rfl, o1, f1, x1⟩ := hrel
    by_cases hlt : k < L.length
    case neg =>
      have hbl : decide ((k : Int) < (L.length : Int)) = false := dfalse (by omega)
      have hZ2 : Hid (Z = scanC (L.take k) a b) := Lib.hid (by rw [hZ.out, List.take_of_length_le (by omega)])
      go_wp2_with fail
      go_ret
      exact ⟨_, rfl, hZ2.out ▸ o1, f1, x1⟩
    have hbl : decide ((k : Int) < (L.length : Int)) = true := dtrue (by omega)
    obtain ⟨ad, hA, -, c0, c1, c2, c3⟩ := Cs.at_ (h4.ext x1) hlt
    subst hA
    have hi0 : (0 : Int) ≤ (k : Int) := by omega
    have hi1 : (k : Int) < (L.length : Int) := by omega
    have hnx : scanC (L.take (k + 1)) a b = if (!Op.bytesLess L[k].key a && (b == [] || Op.bytesLess L[k].key b)) = true then scanC (L.take k) a b ++ [L[k]] else scanC (L.take k) a b := by
      unfold scanC
      rw [List.take_succ_eq_append_getElem hlt, List.filter_append, List.filter_cons, List.filter_nil]
      split
      · rfl
      · rw [List.append_nil]
    have hzl : (scanC (L.take k) a b).length ≤ 1000000 := by
      have := List.length_filter_le (fun c => !Op.bytesLess c.key a && (b == [] || Op.bytesLess c.key b)) (L.take k)
      rw [List.length_take] at this
      unfold scanC
      omega
    have hn1 : Hid (((scanC (L.take k) a b).length + 1) * 48 ≤ 140737488355328) := Lib.hid (by omega)
    generalize L[k] = x at *
    obtain ⟨Y, hY⟩ : ∃ Y, Y = scanC (L.take k) a b := ⟨_, rfl⟩
    obtain ⟨Y', hY'⟩ : ∃ Y', Y' = scanC (L.take (k + 1)) a b := ⟨_, rfl⟩
    rw [← hY, ← hY', hbe] at hnx
    rw [← hY] at o1 hn1
    replace hY' := Lib.hid hY'
    clear hY hzl hbe
    obtain ⟨Ao, co, hvo⟩ := o1.shape
    subst hvo
    cases hb1 : Op.bytesLess x.key a
    case true =>
      have hY2 : Hid (Y' = Y) := Lib.hid (by rw [hnx, hb1]; rfl)
      clear hnx
      go_wp2_with fail
      exact ⟨⟨k + 1, by omega, by go_num, hY'.out ▸ hY2.out ▸ o1, f1, x1⟩, by simp [intOf] <;> omega⟩
    rw [hb1] at hnx
    cases hb2 : b.isEmpty
    case true =>
      have hY2 : Hid (Y' = Y ++ [x]) := Lib.hid (by rw [hnx, hb2]; rfl)
      clear hnx
      go_wp2_with ((with_reducible show wpList _ _ _ (⟨some 41, _, _, _, _, _⟩ :: _) _ _); refine wp_appR (x := x) tyC cel_len o1 rfl (cel_ok _) hn1.out rfl (.tmp 35) (.tmp 40) rfl rfl rfl ?_; intro v6 w6 k1 k2 k3)
      have x6 : Ext w w6 := ext_app0 x1 f1 k2
      have f6 := k3.fresh f1 x1.size
      exact ⟨⟨k + 1, by omega, by go_num, hY'.out ▸ hY2.out ▸ k1, f6, x6⟩, by simp [intOf] <;> omega⟩
    rw [hb2] at hnx
    cases hb3 : Op.bytesLess x.key b
    case false =>
      have hY2 : Hid (Y' = Y) := Lib.hid (by rw [hnx, hb3]; rfl)
      clear hnx
      go_wp2_with fail
      exact ⟨⟨k + 1, by omega, by go_num, hY'.out ▸ hY2.out ▸ o1, f1, x1⟩, by simp [intOf] <;> omega⟩
    have hY2 : Hid (Y' = Y ++ [x]) := Lib.hid (by rw [hnx, hb3]; rfl)
    clear hnx
    go_wp2_with ((with_reducible show wpList _ _ _ (⟨some 41, _, _, _, _, _⟩ :: _) _ _); refine wp_appR (x := x) tyC cel_len o1 rfl (cel_ok _) hn1.out rfl (.tmp 35) (.tmp 40) rfl rfl rfl ?_; intro v6 w6 k1 k2 k3)
    have x6 : Ext w w6 := ext_app0 x1 f1 k2
    have f6 := k3.fresh f1 x1.size
    exact ⟨⟨k + 1, by omega, by go_num, hY'.out ▸ hY2.out ▸ k1, f6, x6⟩, by simp [intOf] <;> omega⟩
end
end Go.Proofs.YthohghnfiicndaaDoor
