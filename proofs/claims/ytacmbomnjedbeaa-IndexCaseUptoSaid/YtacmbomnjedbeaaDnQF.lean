/- dn: the document's Parse. -/
import Derived.Test.YtacmbomnjedbeaaDnQE
namespace Go.Proofs.Ytacmbomnjedbeaa
open Go.RowKit
set_option maxRecDepth 100000

set_option maxHeartbeats 8000000 in
theorem qparse_any {w : World} (s : List UInt8) (hl : s.length ≤ 1000000) :
    Calls Try.prog 29 #[sv s] w fun e w' => ∃ v, e = .returned (.tuple #[v, .int .i64 (parseB s).2]) ∧ OwnA w' v (parseB s).1 ∧ Fresh w.heap.size v ∧ Ext w w' := by
  by_cases hs0 : s = []
  · subst hs0
    go_enter Try.func29, Try.ntmps29
    go_wp2_with fail
    go_ret2
    exact ⟨_, rfl, OwnR.nil _ _ _ _, fresh_nil _ _ _, Mod.refl _ _⟩
  have hsz := sv_size s
  obtain ⟨V, hV⟩ : ∃ V, V = parseF (s.length + 1) s [] := ⟨_, rfl⟩
  obtain ⟨R, hR⟩ : ∃ R, R = parseB s := ⟨_, rfl⟩
  have hRV : R = outP V := by rw [hR, parseB, if_neg hs0, hV]
  rw [← hR]
  have hne : s.isEmpty = false := List.isEmpty_eq_false_iff.2 hs0
  replace hRV := Lib.hid hRV
  replace hV := Lib.hid hV
  clear hR hs0
  go_enter Try.func29, Try.ntmps29
  go_wp2_with fail
  have r0 : Rq (w.alloc (.cells #[sv s, .int .i64 0] 71)) w.heap.size s 0 := Blk.new w _ _
  have m0 := (Mod.refl (fun _ => False) w).alloc (.cells #[sv s, .int .i64 0] 71)
  go_loopw [5] (fun v wr => ∃ (j f : Nat) (L : List Av), j ≤ s.length ∧ L.length ≤ j ∧ Hid (s.length < f + j ∧ parseF f (s.drop j) L = V ∧ ∀ a ∈ L, a.1.length ≤ s.length ∧ a.2.length ≤ s.length) ∧ OwnA wr v L ∧ Fresh (w.heap.size + 1) v ∧ Rq wr w.heap.size s j ∧ Ext w wr) (fun _ wr => s.length - rdAt wr w.heap.size)
  case atStart =>
    exact ⟨0, s.length + 1, [], Nat.zero_le _, Nat.le_refl _, Lib.hid ⟨by omega, hV.out.symm, fun a h => absurd h List.not_mem_nil⟩, OwnR.nil _ _ _ _, fresh_nil _ _ _, r0, m0⟩
  case round =>
    obtain ⟨j, f, L, hj, hLj, hv, p1, p2, r1, m1⟩ := hrel
    clear hV r0 m0
    have hat := r1.at_
    obtain ⟨f, rfl⟩ : ∃ f', f = f' + 1 := ⟨f - 1, by have := hv.out.1; omega⟩
    go_wp2_with fail
    refine (qpart_any r1 hj (by omega)).mono ?_
    rintro e w2 ⟨t, x, ok, j2, rfl, hj2, hj2l, htl, hxl, hpe, r2, x2⟩
    have m2 : Ext w w2 := m1.trans x2 (fun _ _ h => h) (fun b hb h => by have : b = w.heap.size := h; omega)
    have p3 : OwnA w2 u5 L := p1.mod x2 (fun b hb hbg => by have := p2 b hb; have : b = w.heap.size := hbg; omega)
    have hve : V = (partR (s.drop j)).bind fun p => match p.2 with | [] => some (L ++ [p.1]) | _ :: l' => parseF f l' (L ++ [p.1]) := hv.out.2.1.symm
    rw [hpe] at hve
    obtain ⟨hf1, _, hf3⟩ := hv.out
    clear hpe hv m1 p1 r1 x2
    cases ok
    · replace hRV := Lib.hid (show R = ([], 3) by rw [hRV.out, hve]; rfl)
      clear hve
      go_wp2_with fail
      go_ret2
      exact ⟨_, by rw [hRV.out]; rfl, by rw [hRV.out]; exact OwnR.nil _ _ _ _, fresh_nil _ _ _, m2.alloc _⟩
    have hLf : ∀ a ∈ L ++ [(t, x)], a.1.length ≤ s.length ∧ a.2.length ≤ s.length := by
      intro a ha
      rcases List.mem_append.1 ha with ha | ha
      · exact hf3 a ha
      · rw [List.mem_singleton.1 ha]; exact ⟨htl, hxl⟩
    replace hLf := Lib.hid hLf
    replace hve := Lib.hid hve
    have hn1 := Lib.hid (show (L.length + 1) * 32 ≤ 140737488355328 by omega)
    clear hf3
    obtain ⟨A, c, rfl⟩ := p3.shape
    have hj2m0 : j2 ≤ 1000000 := by omega
    have hln := Lib.hid (show (L ++ [(t, x)]).length = L.length + 1 by simp)
    by_cases hlt : j2 < s.length
    · have hd : ((j2 : Int) == (s.length : Int)) = false := by rw [beq_eq_false_iff_ne]; omega
      have hve2 : V = parseF f (s.drop (j2 + 1)) (L ++ [(t, x)]) := by
        rw [hve.out, List.drop_eq_getElem_cons hlt]
        rfl
      replace hve2 := Lib.hid hve2
      clear hve
      go_wp2_with ((with_reducible show wpList _ _ _ (⟨some 23, _, _, _, _, _⟩ :: _) _ _); refine wp_appR tyA avc_len (p3.alloc _) rfl (avc_ok (t, x)) hn1.out rfl (.tmp 20) (.tmp 22) rfl rfl (by show Value.slice (some ⟨w2.heap.size + 1, 0, none⟩) 1 1 = _; simp) ?_; intro v3 w3 g1 g2 g3; have r3 := r2.mod (mod_app g2) (fun h => by have := p2 _ h; omega); obtain ⟨c0, c1⟩ := r3.c; have z1 := Blk.frozen r3 1)
      have x3 : Mod (own (.slice A L.length c)) w2 w3 := mod_app g2
      have m3 : Ext w w3 := m2.trans x3 (fun _ _ h => h) (fun b hb h => by have := p2 b h; omega)
      have p4 : Fresh (w.heap.size + 1) v3 := g3.fresh p2 (by have := r2.lt; simp; omega)
      have r5 := r3.step (j2 + 1) ((j2 : Int) + 1) (by omega)
      refine ⟨⟨j2 + 1, f, L ++ [(t, x)], by omega, by have := hln.out; omega, Lib.hid ⟨by omega, hve2.out.symm, hLf.out⟩, g1.mod (step_mod (w := w3) (g := w.heap.size) _) (fun b hb hbg => by have := p4 b hb; have : b = w.heap.size := hbg; omega), p4, r5, m3.setCell (p := ⟨w.heap.size, 1, none⟩) (fun h => absurd h (Nat.lt_irrefl _)) _⟩, ?_⟩
      rw [r5.at_, hat]; omega
    · have hd : ((j2 : Int) == (s.length : Int)) = true := by rw [beq_iff_eq]; omega
      have hve2 : V = some (L ++ [(t, x)]) := by
        rw [hve.out, List.drop_of_length_le (by omega)]
        rfl
      have hfit : Fits (L ++ [(t, x)]) := ⟨fun a ha => by have := hLf.out a ha; omega, by have := hln.out; omega⟩
      replace hRV := hRV.out
      rw [hve2] at hRV
      replace hRV := Lib.hid hRV
      clear hve hve2 hLf
      go_wp2_with ((with_reducible show wpList _ _ _ (⟨some 23, _, _, _, _, _⟩ :: _) _ _); refine wp_appR tyA avc_len (p3.alloc _) rfl (avc_ok (t, x)) hn1.out rfl (.tmp 20) (.tmp 22) rfl rfl (by show Value.slice (some ⟨w2.heap.size + 1, 0, none⟩) 1 1 = _; simp) ?_; intro v3 w3 g1 g2 g3; have r3 := r2.mod (mod_app g2) (fun h => by have := p2 _ h; omega); obtain ⟨c0, c1⟩ := r3.c; have z1 := Blk.frozen r3 1)
      have x3 : Mod (own (.slice A L.length c)) w2 w3 := mod_app g2
      have m3 : Ext w w3 := m2.trans x3 (fun _ _ h => h) (fun b hb h => by have := p2 b h; omega)
      have p4 : Fresh (w.heap.size + 1) v3 := g3.fresh p2 (by have := r2.lt; simp; omega)
      refine (ris_any g1.rc hfit).mono ?_
      rintro e w5 ⟨rfl, hw5⟩
      rw [hw5]
      clear hw5 w5
      by_cases hin : isName (L ++ [(t, x)])
      · rw [dtrue hin]
        replace hRV := Lib.hid (show R = (L ++ [(t, x)], 0) by rw [hRV.out, outP, if_pos hin])
        go_wp2_with fail
        go_ret2
        exact ⟨_, by rw [hRV.out]; rfl, by rw [hRV.out]; exact g1, p4.mono (by omega), m3⟩
      · rw [dfalse hin]
        replace hRV := Lib.hid (show R = ([], 5) by rw [hRV.out, outP, if_neg hin])
        go_wp2_with fail
        go_ret2
        exact ⟨_, by rw [hRV.out]; rfl, by rw [hRV.out]; exact OwnR.nil _ _ _ _, fresh_nil _ _ _, m3⟩
end Go.Proofs.Ytacmbomnjedbeaa
