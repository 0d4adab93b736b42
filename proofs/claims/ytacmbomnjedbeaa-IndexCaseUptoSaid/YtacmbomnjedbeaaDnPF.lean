/- dn: Parse. -/
import Derived.Test.YtacmbomnjedbeaaDnPE
import Derived.Test.YtacmbomnjedbeaaDnM
namespace Go.Proofs.Ytacmbomnjedbeaa
open Go.RowKit
set_option maxRecDepth 100000

def parseF : Nat → List UInt8 → List Av → Option (List Av)
  | 0, _, _ => none
  | f + 1, l, acc => (partR l).bind fun p => match p.2 with
    | [] => some (acc ++ [p.1])
    | _ :: l' => parseF f l' (acc ++ [p.1])
def outP : Option (List Av) → List Av × Nat
  | none => ([], 3)
  | some L => if isName L then (L, 0) else ([], 5)
/-- A text as a name, or the error. -/
def parseB (s : List UInt8) : List Av × Nat := if s = [] then ([], 0) else outP (parseF (s.length + 1) s [])

set_option maxHeartbeats 8000000 in
theorem parse_any {w : World} (s : List UInt8) (hl : s.length ≤ 1000000) :
    Calls Try.prog 60 #[sv s] w fun e w' => ∃ v, e = .returned (.tuple #[v, .int .i64 (parseB s).2]) ∧ OwnA w' v (parseB s).1 ∧ Fresh w.heap.size v ∧ Ext w w' := by
  by_cases hs0 : s = []
  · subst hs0
    go_enter Try.func60, Try.ntmps60
    go_wp2_with fail
    go_ret2
    exact ⟨_, rfl, OwnR.nil _ _ _ _, fresh_nil _ _ _, Mod.refl _ _⟩
  have hsz := sv_size s
  obtain ⟨V, hV⟩ : ∃ V, V = parseF (s.length + 1) s [] := ⟨_, rfl⟩
  obtain ⟨R, hR⟩ : ∃ R, R = parseB s := ⟨_, rfl⟩
  have hRV : R = outP V := by rw [hR, parseB, if_neg hs0, hV]
  rw [← hR]
  have hne : s.isEmpty = false := List.isEmpty_eq_false_iff.2 hs0
  replace hRV := Lib.hid hRV
  replace hV := Lib.hid hV
  clear hR hs0
  go_enter Try.func60, Try.ntmps60
  go_wp2_with fail
  have r0 : Rd (w.alloc (.cells #[sv s, .int .i64 0] 107)) w.heap.size s 0 := Blk.new w _ _
  have m0 := (Mod.refl (fun _ => False) w).alloc (.cells #[sv s, .int .i64 0] 107)
  go_loopw [5] (fun v wr => ∃ (j f : Nat) (L : List Av), j ≤ s.length ∧ L.length ≤ j ∧ Hid (s.length < f + j ∧ parseF f (s.drop j) L = V ∧ ∀ a ∈ L, a.1.length ≤ s.length ∧ a.2.length ≤ s.length) ∧ OwnA wr v L ∧ Fresh (w.heap.size + 1) v ∧ Rd wr w.heap.size s j ∧ Ext w wr) (fun _ wr => s.length - rdAt wr w.heap.size)
  case atStart =>
    exact ⟨0, s.length + 1, [], Nat.zero_le _, Nat.le_refl _, Lib.hid ⟨by omega, hV.out.symm, fun a h => absurd h List.not_mem_nil⟩, OwnR.nil _ _ _ _, fresh_nil _ _ _, r0, m0⟩
  case round =>
    obtain ⟨j, f, L, hj, hLj, hv, p1, p2, r1, m1⟩ := hrel
    clear hV r0 m0
    have hat := r1.at_
    obtain ⟨f, rfl⟩ : ∃ f', f = f' + 1 := ⟨f - 1, by have := hv.out.1; omega⟩
    go_wp2_with fail
    refine (rpart_any r1 hj (by omega)).mono ?_
    rintro e w2 ⟨t, x, ok, j2, rfl, hj2, hj2l, htl, hxl, hpe, r2, x2⟩
    have m2 : Ext w w2 := m1.trans x2 (fun _ _ h => h) (fun b hb h => by have : b = w.heap.size := h; omega)
    have p3 : OwnA w2 u5 L := p1.mod x2 (fun b hb hbg => by have := p2 b hb; have : b = w.heap.size := hbg; omega)
    have hve : V = (partR (s.drop j)).bind fun p => match p.2 with | [] => some (L ++ [p.1]) | _ :: l' => parseF f l' (L ++ [p.1]) := hv.out.2.1.symm
    rw [hpe] at hve
    obtain ⟨hf1, _, hf3⟩ := hv.out
    clear hpe hv m1 p1 r1 x2
    cases ok
    · replace hRV := Lib.hid (show R = ([], 3) by rw [hRV.out, hve]; rfl)
      clear hve
      go_wp2_with fail
      go_ret2
      exact ⟨_, by rw [hRV.out]; rfl, by rw [hRV.out]; exact OwnR.nil _ _ _ _, fresh_nil _ _ _, m2.alloc _⟩
    have hLf : ∀ a ∈ L ++ [(t, x)], a.1.length ≤ s.length ∧ a.2.length ≤ s.length := by
      intro a ha
      rcases List.mem_append.1 ha with ha | ha
      · exact hf3 a ha
      · rw [List.mem_singleton.1 ha]; exact ⟨htl, hxl⟩
    replace hLf := Lib.hid hLf
    replace hve := Lib.hid hve
    have hn1 := Lib.hid (show (L.length + 1) * 32 ≤ 140737488355328 by omega)
    clear hf3
    obtain ⟨A, c, rfl⟩ := p3.shape
    go_wp2_with ((with_reducible show wpList _ _ _ (⟨some 23, _, _, _, _, _⟩ :: _) _ _); refine wp_appR tyA avc_len (p3.alloc _) rfl (avc_ok (t, x)) hn1.out rfl (.tmp 20) (.tmp 22) rfl rfl (by show Value.slice (some ⟨w2.heap.size + 1, 0, none⟩) 1 1 = _; simp) ?_; intro v3 w3 g1 g2 g3)
    have x3 : Mod (own (.slice A L.length c)) w2 w3 := mod_app g2
    have m3 : Ext w w3 := m2.trans x3 (fun _ _ h => h) (fun b hb h => by have := p2 b h; omega)
    have r3 := r2.mod x3 (fun h => by have := p2 _ h; omega)
    have p4 : Fresh (w.heap.size + 1) v3 := g3.fresh p2 (by have := r2.lt; simp; omega)
    clear g2 g3 x3 r2 m2 p2 p3
    refine (rend_any r3).mono ?_
    rintro e w4 ⟨rfl, n4, hw4⟩
    have x4 : Ext w3 w4 := by rw [hw4]; exact (Mod.refl _ w3).drewN n4
    clear hw4
    have r4 := r3.mod x4 (fun h => h)
    have m4 := ext_trans m3 x4
    have g4 := g1.ext x4
    clear r3 m3 x4 g1
    have hln : (L ++ [(t, x)]).length = L.length + 1 := by simp
    obtain ⟨M, hM⟩ : ∃ M, M = L ++ [(t, x)] := ⟨_, rfl⟩
    rw [← hM] at g4 hLf hln
    by_cases hlt : j2 < s.length
    · have hd : decide (j2 = s.length) = false := dfalse (by omega)
      have hve2 : V = parseF f (s.drop (j2 + 1)) M := by
        rw [hve.out, List.drop_eq_getElem_cons hlt, hM]
        rfl
      replace hve2 := Lib.hid hve2
      replace hln := Lib.hid hln
      rw [hd]
      clear hve hM hd
      obtain ⟨c0, c1⟩ := r4.c
      have z1 := Blk.frozen r4 1
      have hj2m : j2 ≤ 1000000 := by omega
      go_wp2_with fail
      have r5 := r4.step
      refine ⟨⟨j2 + 1, f, M, by omega, by have := hln.out; omega, Lib.hid ⟨by omega, hve2.out.symm, hLf.out⟩, g4.mod (step_mod (w := w4) (g := w.heap.size) _) (fun b hb hbg => by have := p4 b hb; have : b = w.heap.size := hbg; omega), p4, r5, m4.setCell (p := ⟨w.heap.size, 1, none⟩) (fun h => absurd h (Nat.lt_irrefl _)) _⟩, ?_⟩
      rw [r5.at_, hat]; omega
    · have hd : decide (j2 = s.length) = true := dtrue (by omega)
      rw [hd]
      have hve2 : V = some M := by
        rw [hve.out, List.drop_of_length_le (by omega), hM]
        rfl
      have hfit : Fits M := ⟨fun a ha => by have := hLf.out a ha; omega, by omega⟩
      replace hRV := hRV.out
      rw [hve2] at hRV
      replace hRV := Lib.hid hRV
      clear hve hM hd hve2 hLf
      replace hln := Lib.hid hln
      obtain ⟨A, c, rfl⟩ := g4.shape
      go_wp2_with fail
      refine (is_any g4.rc hfit).mono ?_
      rintro e w5 ⟨rfl, x5⟩
      have g5 := g4.ext x5
      have m5 := ext_trans m4 x5
      by_cases hin : isName M
      · rw [dtrue hin]
        replace hRV := Lib.hid (show R = (M, 0) by rw [hRV.out, outP, if_pos hin])
        go_wp2_with fail
        go_ret2
        exact ⟨_, by rw [hRV.out]; rfl, by rw [hRV.out]; exact g5, p4.mono (by omega), m5⟩
      · rw [dfalse hin]
        replace hRV := Lib.hid (show R = ([], 5) by rw [hRV.out, outP, if_neg hin])
        go_wp2_with fail
        go_ret2
        exact ⟨_, by rw [hRV.out]; rfl, by rw [hRV.out]; exact OwnR.nil _ _ _ _, fresh_nil _ _ _, m5⟩
end Go.Proofs.Ytacmbomnjedbeaa
