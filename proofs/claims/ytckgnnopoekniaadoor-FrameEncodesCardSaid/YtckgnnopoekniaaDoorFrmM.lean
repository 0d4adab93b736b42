/- frame: the document's Scan; any bytes begin with a record, or are refused for the first reason: the statement's own walk. -/
import Derived.Test.YtckgnnopoekniaaDoorFrmL
namespace Go.Proofs.YtckgnnopoekniaaDoor
open Go.RowKit
set_option maxRecDepth 100000

set_option maxHeartbeats 2000000 in
theorem rscan_any {w : World} {S : Nat → Prop} {v : Value} {l : List UInt8} (h : Bs w S v l) (hl : l.length ≤ 1000000) :
    Calls Tryd.prog 18 #[v] w fun e w' => ∃ v', e = .returned (.tuple #[v', .int .i64 ((scan l).2 : Nat)]) ∧ (∃ vs, Orw w' w.heap.size v' vs (scan l).1) ∧ Ext w w' := by
  have h0 := h
  obtain ⟨A, c, rfl, h1, h2, h3, h4⟩ := h.open_
  go_enter Tryd.func18, Tryd.ntmps18
  go_wp2_with fail
  go_loopw [4, 5] (fun v i wr => ∃ (vs : List Value) (L0 : List (List UInt8)) (g : Nat), i = .int .i64 g ∧ g ≤ l.length ∧ Orw wr w.heap.size v vs L0 ∧ Ext w wr ∧ L0.length ≤ g ∧ Hid (scan l = (L0 ++ (scan (l.drop g)).1, g + (scan (l.drop g)).2))) (fun _ i _ => l.length - (intOf i).toNat)
  case atStart => exact ⟨[], [], 0, rfl, Nat.zero_le _, Orw.nil _ _, Mod.refl _ _, Nat.le_refl _, Lib.hid (by rw [List.drop_zero, List.nil_append, Nat.zero_add])⟩
  case round =>
    obtain ⟨vs, L0, g, rfl, hg, horw, hx, hL0, hsc⟩ := hrel
    have hdl : (l.drop g).length ≤ 140737488355328 := by rw [List.length_drop]; omega
    have hr : Bs wr S (.slice A l.length c) l := h0.ext hx
    have hgi0 : (0 : Int) ≤ (g : Int) := by omega
    have hlc : (l.length : Int) ≤ (c : Int) := by omega
    by_cases hgl : g < l.length
    · have hgi : (g : Int) < (l.length : Int) := by omega
      have hcg : ¬ c = g := by omega
      have hb := hr.rest (m := g) hg
      have hA : ∃ ad, A = some ad := by
        rcases A with _ | ad
        · have := h3 rfl; omega
        · exact ⟨ad, rfl⟩
      obtain ⟨ad, rfl⟩ := hA
      simp only [Option.map_some] at hb
      go_wp2_with fail
      refine (rdecode_any hb hdl).mono ?_
      rintro e w1 ⟨v1, rfl, k1, hfk, g2⟩
      have hx1 := ext_trans hx g2
      have horw2 := horw.ext g2
      have hsz := @dec_size (l.drop g)
      have hok := @scan_ok (l.drop g)
      have hno := @scan_no (l.drop g)
      obtain ⟨p, n, er, hd⟩ : ∃ p n er, dec (l.drop g) = (p, n, er) := ⟨_, _, _, rfl⟩
      rw [hd] at k1 hsz hok hno ⊢
      simp only at k1 hsz hok hno ⊢
      by_cases he : er = 0
      · subst he
        have hn := hsz rfl
        rw [List.length_drop] at hn
        have hsc2 := hok rfl
        rw [List.drop_drop] at hsc2
        replace hsc2 := Lib.hid hsc2
        clear hsz hok hno hb horw hd
        have hf2 : Fresh w.heap.size v1 := hfk.mono hx.size
        obtain ⟨A2, c2, rfl⟩ := k1.shape
        rw [List.length_map] at k1 hf2 ⊢
        have hn1 : (vs.length + ([.slice A2 p.length c2] : List Value).length) * 24 ≤ 140737488355328 := by rw [horw2.len]; simp; omega
        replace hn1 := Lib.hid hn1
        have hsl := Sl.one w1 23 (.slice A2 p.length c2)
        have ho := one_ok (.slice A2 p.length c2) rfl
        have hown1 := horw2.own.alloc (.cells #[.slice A2 p.length c2] 23)
        have k1a := k1.alloc (.cells #[.slice A2 p.length c2] 23)
        have hwr : IntKind.i64.wrap ((g : Int) + (n : Int)) = ((g + n : Nat) : Int) := by rw [IntKind.wrap_i64]; omega
        clear g2 hfk
        go_wp2_with ((with_reducible show wpList _ _ _ (⟨some 26, _, _, _, _, _⟩ :: _) _ _); refine wp_app tyR hown1 hsl ho rfl (.tmp 23) (.tmp 25) rfl rfl rfl hn1.out ?_; intro v4 w4 q1 q2 q3)
        refine ⟨⟨vs ++ [.slice A2 p.length c2], L0 ++ [p], g + n, by go_num, by omega, (horw2.alloc _).snoc q1 q2 (q3.sooner (by simp)) k1a hf2 (by simp; have := hx1.size; omega), ext_app hx1 horw2.fresh q2, by simp; omega, Lib.hid ?_⟩, by simp [intOf] <;> omega⟩
        rw [hsc.out, hsc2.out]
        simp only [List.append_assoc, List.singleton_append, Nat.add_assoc]
      · have hb5 : ((er : Int) != 0) = true := by rw [bne_iff_ne]; omega
        have hsc2 := hno he
        go_wp2_with fail
        go_ret2
        rw [hsc.out, hsc2, List.append_nil, Nat.add_zero]
        exact ⟨_, rfl, ⟨vs, horw2⟩, hx1⟩
    · have hsc2 : scan (l.drop g) = ([], 0) := by rw [List.drop_of_length_le (by omega)]; exact scan_no dec_nil
      go_wp2_with fail
      go_ret2
      rw [hsc.out, hsc2, List.append_nil, Nat.add_zero]
      exact ⟨_, rfl, ⟨vs, horw⟩, hx⟩
end Go.Proofs.YtckgnnopoekniaaDoor
