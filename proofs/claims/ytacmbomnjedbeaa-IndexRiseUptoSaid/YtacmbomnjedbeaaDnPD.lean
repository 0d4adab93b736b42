/- dn: the reader: value. -/
import Derived.Test.YtacmbomnjedbeaaDnPC
import Derived.Test.YtacmbomnjedbeaaRecB
namespace Go.Proofs.Ytacmbomnjedbeaa
open Go.RowKit
set_option maxRecDepth 100000

/-- What doesn't stand by itself in a value. -/
def sepB : List UInt8 := [44, 43, 34, 92, 60, 62, 59]
def valF : Nat → List UInt8 → List UInt8 → Nat → Option (List UInt8 × List UInt8)
  | 0, _, _, _ => none
  | _ + 1, [], out, n => some (out.take n, [])
  | f + 1, b :: l, out, n =>
    if b = 44 then some (out.take n, b :: l)
    else if b = 92 then (escR l).bind fun p => valF f p.2 (out ++ [p.1]) (out.length + 1)
    else if b ∈ sepB then none
    else valF f l (out ++ [b]) (if b = 32 then n else out.length + 1)
/-- A value with the blanks around it, and what is left. -/
def valueB (l : List UInt8) : Option (List UInt8 × List UInt8) := valF ((skipB l).length + 1) (skipB l) [] 0

theorem own_rd {w : World} {g : Nat} {s : List UInt8} {k : Nat} {v : Value} {B : Nat} (_h : Rd w g s k) (hg : g < B) (hv : Fresh B v) : ¬ own v g := fun hh => by have := hv g hh; omega

theorem own_shape1 {w : World} {e : TypeId} {v : Value} {l : List UInt8} {b : UInt8} (h : Own w e v ((l ++ [b]).map bv)) : ∃ A c, v = .slice A (l.length + 1) c := by
  obtain ⟨A, c, h⟩ := h.shape
  exact ⟨A, c, by rw [h]; simp⟩

set_option maxHeartbeats 8000000 in
theorem rvalue_any {w : World} {g : Nat} {s : List UInt8} {k : Nat} (h : Rd w g s k) (hk : k ≤ s.length) (hl : s.length ≤ 140737488351232) :
    Calls Try.prog 99 #[.pointer (some ⟨g, 0, none⟩)] w fun e w' => ∃ (v : List UInt8) (ok : Bool) (j : Nat), e = .returned (.tuple #[sv v, .bool ok]) ∧ k ≤ j ∧ j ≤ s.length ∧ v.length ≤ s.length ∧ valueB (s.drop k) = (if ok then some (v, s.drop j) else none) ∧ Rd w' g s j ∧ Mod (fun b => b = g) w w' := by
  have hsz := sv_size s
  have hgw : g < w.heap.size := Blk.lt h
  go_enter Try.func99, Try.ntmps99
  go_wp2_with fail
  refine (blanks_any h hk hl).mono ?_
  rintro e w1 ⟨rfl, k1, hk1, hk1l, hsk, r1, m1⟩
  obtain ⟨V, hV⟩ : ∃ V, V = valueB (s.drop k) := ⟨_, rfl⟩
  have hV1 : valF ((s.drop k1).length + 1) (s.drop k1) [] 0 = V := by rw [hV, valueB, hsk]
  replace hV := Lib.hid hV
  replace hV1 := Lib.hid hV1
  clear hsk
  have hw1 := m1.size
  go_wp2_with fail
  go_loopw [4, 5] (fun v nn wr => ∃ (j : Nat) (out : List UInt8) (n f : Nat), k1 ≤ j ∧ j ≤ s.length ∧ nn = .int .i64 n ∧ n ≤ out.length ∧ out.length ≤ j ∧ Hid (s.length < f + j ∧ valF f (s.drop j) out n = V) ∧ Own wr 5 v (out.map bv) ∧ Fresh w.heap.size v ∧ Rd wr g s j ∧ Mod (fun b => b = g) w wr) (fun _ _ wr => s.length - rdAt wr g)
  case atStart =>
    exact ⟨k1, [], 0, (s.drop k1).length + 1, Nat.le_refl _, hk1l, rfl, Nat.le_refl _, Nat.zero_le _, Lib.hid ⟨by rw [List.length_drop]; omega, hV1.out⟩, Own.nil _ _, fresh_nil _ _ _, r1, m1⟩
  case round =>
    obtain ⟨j, out, n, f, hj, hjl, rfl, hn, hoj, hv, p1, p2, r2, m2⟩ := hrel
    clear hV1 r1 m1 hw1
    obtain ⟨c0, c1⟩ := r2.c
    have z1 := Blk.frozen r2 1
    have hend := fun n => rend_any (r2.drewN n)
    have hat := r2.at_
    obtain ⟨f, rfl⟩ : ∃ f', f = f' + 1 := ⟨f - 1, by have := hv.out.1; omega⟩
    by_cases hlt : j < s.length
    case neg =>
      have hd : decide (j = s.length) = true := dtrue (by omega)
      rw [hd] at hend
      have hVe : V = some (out.take n, s.drop j) := by
        rw [← hv.out.2, List.drop_of_length_le (by omega), valF]
      replace hVe := Lib.hid hVe
      go_wp2_with fail
      go_quiet ((go_at_call 83; refine Calls.quiet_of (hend _)))
      obtain ⟨w3, hw3⟩ : ∃ x, x = wr.drewN nq := ⟨_, rfl⟩
      rw [← hw3]
      have xw3 : Ext wr w3 := by rw [hw3]; exact (Mod.refl _ wr).drewN nq
      clear hw3
      have r3 := r2.mod xw3 (fun h => h)
      have m3 : Mod (fun b => b = g) w w3 := m2.then_ xw3 (fun _ _ h => h.elim)
      replace p1 := p1.mod xw3 (fun _ _ h => h)
      clear nq c0 c1 z1
      obtain ⟨c0, c1⟩ := r3.c
      have z1 := Blk.frozen r3 1
      rcases p1.form with ⟨rfl, ho⟩ | ⟨g2, cap, rfl, q1, q2, q3⟩
      · simp only [List.map_eq_nil_iff] at ho
        subst ho
        obtain rfl : n = 0 := by simpa using hn
        have hcv := run_conv (P := Try.prog) (l := []) Try.underlying65 Try.underlying5 Try.underlying9 p1.sl
        replace hVe := Lib.hid (hV.out.symm.trans hVe.out)
        clear hV hoj hv hend
        go_wp2_with fail
        go_ret2
        exact ⟨[], true, j, rfl, by omega, hjl, Nat.zero_le _, by rw [hVe.out]; rfl, r3, m3⟩
      · rw [List.length_map] at q1
        have hpb := Own.begin p1 (m := n) (by simpa using hn)
        rw [← List.map_take] at hpb
        have hcv := run_conv (P := Try.prog) Try.underlying65 Try.underlying5 Try.underlying9 hpb.sl
        replace hVe := Lib.hid (hV.out.symm.trans hVe.out)
        have hnl : (out.take n).length ≤ s.length := by rw [List.length_take]; omega
        have hn1 : (n : Int) ≤ (out.length : Int) := by omega
        replace hnl := Lib.hid hnl
        clear hV hv hend p1 hpb
        go_wp2_with fail
        go_ret2
        exact ⟨out.take n, true, j, rfl, by omega, hjl, hnl.out, by rw [hVe.out]; rfl, r3, m3⟩
    obtain ⟨c, hck⟩ : ∃ c, c = s[j] := ⟨_, rfl⟩
    have hg : ∀ h', (⟨s.toArray⟩ : ByteArray)[j]'h' = c := fun h' => (sv_get s j hlt h').trans hck.symm
    have hdr : s.drop j = c :: s.drop (j + 1) := by rw [List.drop_eq_getElem_cons hlt, hck]
    have hd : decide (j = s.length) = false := dfalse (by omega)
    rw [hd] at hend
    clear hd hck
    have hi0 : (0 : Int) ≤ (j : Int) := by omega
    have hi1 : (j : Int) < (s.length : Int) := by omega
    by_cases h44 : c = 44
    · have hVe : V = some (out.take n, s.drop j) := by
        rw [← hv.out.2, hdr, valF, if_pos h44]
      have hcm : ((c.toNat : Int) != 44) = false := by rw [h44]; rfl
      replace hVe := Lib.hid hVe
      clear hdr h44
      go_wp2_with fail
      go_quiet ((go_at_call 83; refine Calls.quiet_of (hend _)))
      obtain ⟨w3, hw3⟩ : ∃ x, x = wr.drewN nq := ⟨_, rfl⟩
      rw [← hw3]
      have xw3 : Ext wr w3 := by rw [hw3]; exact (Mod.refl _ wr).drewN nq
      clear hw3
      have r3 := r2.mod xw3 (fun h => h)
      have m3 : Mod (fun b => b = g) w w3 := m2.then_ xw3 (fun _ _ h => h.elim)
      replace p1 := p1.mod xw3 (fun _ _ h => h)
      clear nq c0 c1 z1
      obtain ⟨c0, c1⟩ := r3.c
      have z1 := Blk.frozen r3 1
      rcases p1.form with ⟨rfl, ho⟩ | ⟨g2, cap, rfl, q1, q2, q3⟩
      · simp only [List.map_eq_nil_iff] at ho
        subst ho
        obtain rfl : n = 0 := by simpa using hn
        have hcv := run_conv (P := Try.prog) (l := []) Try.underlying65 Try.underlying5 Try.underlying9 p1.sl
        replace hVe := Lib.hid (hV.out.symm.trans hVe.out)
        clear hV hoj hv hend
        go_wp2_with fail
        go_ret2
        exact ⟨[], true, j, rfl, by omega, hjl, Nat.zero_le _, by rw [hVe.out]; rfl, r3, m3⟩
      · rw [List.length_map] at q1
        have hpb := Own.begin p1 (m := n) (by simpa using hn)
        rw [← List.map_take] at hpb
        have hcv := run_conv (P := Try.prog) Try.underlying65 Try.underlying5 Try.underlying9 hpb.sl
        replace hVe := Lib.hid (hV.out.symm.trans hVe.out)
        have hnl : (out.take n).length ≤ s.length := by rw [List.length_take]; omega
        have hn1 : (n : Int) ≤ (out.length : Int) := by omega
        replace hnl := Lib.hid hnl
        clear hV hv hend p1 hpb
        go_wp2_with fail
        go_ret2
        exact ⟨out.take n, true, j, rfl, by omega, hjl, hnl.out, by rw [hVe.out]; rfl, r3, m3⟩
    have hcm : ((c.toNat : Int) != 44) = true := by
      rw [bne_iff_ne]
      intro hh
      exact h44 (UInt8.toNat_inj.1 (by show c.toNat = 44; omega))
    go_wp2_with fail
    go_quiet ((go_at_call 83; refine Calls.quiet_of (hend _)))
    clear hend
    obtain ⟨w3, hw3⟩ : ∃ x, x = wr.drewN nq := ⟨_, rfl⟩
    rw [← hw3]
    have xw3 : Ext wr w3 := by rw [hw3]; exact (Mod.refl _ wr).drewN nq
    clear hw3
    have r3 := r2.mod xw3 (fun h => h)
    have m3 : Mod (fun b => b = g) w w3 := m2.then_ xw3 (fun _ _ h => h.elim)
    replace p1 := p1.mod xw3 (fun _ _ h => h)
    clear nq c0 c1 z1
    obtain ⟨c0, c1⟩ := r3.c
    have z1 := Blk.frozen r3 1
    go_wp2_with fail
    go_quiet (fail)
    obtain ⟨w4, hw4⟩ : ∃ x, x = w3.drewN nq := ⟨_, rfl⟩
    rw [← hw4]
    have xw4 : Ext w3 w4 := by rw [hw4]; exact (Mod.refl _ w3).drewN nq
    clear hw4
    have r4 := r3.mod xw4 (fun h => h)
    have m4 : Mod (fun b => b = g) w w4 := m3.then_ xw4 (fun _ _ h => h.elim)
    replace p1 := p1.mod xw4 (fun _ _ h => h)
    clear nq c0 c1 z1
    obtain ⟨c0, c1⟩ := r4.c
    have z1 := Blk.frozen r4 1
    clear hg hi0 hi1 r3 m3 hcm
    have r5 := r4.step
    have m5 := m4.then_ (step_mod (w := w4) (g := g) (.int .i64 ((j : Int) + 1))) (fun _ _ h => h)
    have p5 := p1.mod (step_mod (w := w4) (g := g) (.int .i64 ((j : Int) + 1))) (fun b hb hbg => own_rd r4 hgw p2 (hbg ▸ hb))
    obtain ⟨w5, hw5⟩ : ∃ x, x = w4.setCell ⟨g, 1, none⟩ (.int .i64 ((j : Int) + 1)) := ⟨_, rfl⟩
    have hwd : ∀ K : World → Prop, K w5 → K (w4.setCell ⟨g, 1, none⟩ (.int .i64 ((j : Int) + 1))) := fun K hK => hw5 ▸ hK
    rw [← hw5] at r5 m5 p5
    have hn1 : out.length + 1 ≤ 140737488355328 := by omega
    replace hn1 := Lib.hid hn1
    have hfl : s.length < f + (j + 1) := by have := hv.out.1; omega
    by_cases h92 : c = 92
    · have hcs : ((c.toNat : Int) == 92) = true := by rw [h92]; rfl
      have hve : V = (escR (s.drop (j + 1))).bind fun p => valF f p.2 (out ++ [p.1]) (out.length + 1) := by
        rw [← hv.out.2, hdr, valF, if_neg h44, if_pos h92]
      replace hve := Lib.hid hve
      clear hv hdr h44 h92
      go_wp2_with fail
      rw [← hw5]
      clear hw5 hwd r4 m4 p1 c0 c1 z1
      refine (resc_any r5 (by omega) hl).mono ?_
      rintro e w6 ⟨b, ok, j2, rfl, hj2, hj2l, hes, r6, m6⟩
      have hve2 := hve.out
      clear hve
      rw [hes] at hve2
      clear hes
      have p6 := p5.mod m6 (fun b hb hbg => own_rd r5 hgw p2 (hbg ▸ hb))
      have m7 := m5.then_ m6 (fun _ _ h => h)
      cases ok
      · replace hve2 := Lib.hid (hV.out.symm.trans hve2)
        go_wp2_with fail
        go_ret2
        exact ⟨[], false, j2, rfl, by omega, hj2l, Nat.zero_le _, hve2.out, r6, m7⟩
      · replace hve2 := Lib.hid hve2
        clear r5 m5 p5
        obtain ⟨A, cc, rfl⟩ := p6.shape
        rw [List.length_map] at p6 p2 ⊢
        go_wp2_with ((with_reducible show wpList _ _ _ (⟨some 63, _, _, _, _, _⟩ :: _) _ _); refine wp_app1 tyB p6 rfl hn1.out rfl (.tmp 60) (.tmp 62) rfl rfl rfl ?_; intro v2 w7 k1 k2 k3; obtain ⟨A2, c2, rfl⟩ := own_shape1 k1)
        have r7 := r6.mod k2 (own_rd r6 hgw p2)
        refine ⟨⟨j2, out ++ [b], out.length + 1, f, by omega, hj2l, by go_num, by simp, by simp; omega, Lib.hid ⟨by omega, ?_⟩, k1, k3.fresh p2 m7.size, r7, m7.then_ k2 (fun b hb hh => absurd (p2 b hh) (by omega))⟩, ?_⟩
        · rw [hve2.out]; rfl
        · rw [r7.at_, hat]; omega
    have hcs : ((c.toNat : Int) == 92) = false := by
      rw [beq_eq_false_iff_ne]
      intro hh
      exact h92 (UInt8.toNat_inj.1 (by show c.toNat = 92; omega))
    have hix := idx_mem sepB c
    have hve : V = if c ∈ sepB then none else valF f (s.drop (j + 1)) (out ++ [c]) (if c = 32 then n else out.length + 1) := by
      rw [← hv.out.2, hdr, valF, if_neg h44, if_neg h92]
    clear hv hdr h44 h92
    by_cases hcb : c ∈ sepB
    · rw [if_pos hcb] at hve
      rw [decide_eq_true hcb] at hix
      replace hve := Lib.hid (hV.out.symm.trans hve)
      go_wp2_with fail
      rw [← hw5]
      clear hw5 hwd r4 m4 p1 c0 c1 z1
      refine (sidx_any sepB c).mono ?_
      rintro e w6 ⟨rfl, hw6⟩
      rw [hw6]
      clear hw6
      go_wp2_with fail
      go_ret2
      exact ⟨[], false, j + 1, rfl, by omega, by omega, Nat.zero_le _, hve.out, r5, m5⟩
    rw [if_neg hcb] at hve
    rw [decide_eq_false hcb] at hix
    by_cases h32 : c = 32
    · rw [if_pos h32] at hve
      have hcq : ((c.toNat : Int) != 32) = false := by rw [h32]; rfl
      replace hve := Lib.hid hve
      clear h32 hcb
      go_wp2_with fail
      rw [← hw5]
      clear hw5 hwd r4 m4 p1 c0 c1 z1
      refine (sidx_any sepB c).mono ?_
      rintro e w6 ⟨rfl, hw6⟩
      rw [hw6]
      clear hw6
      obtain ⟨A, cc, rfl⟩ := p5.shape
      rw [List.length_map] at p5 p2 ⊢
      go_wp2_with ((with_reducible show wpList _ _ _ (⟨some 45, _, _, _, _, _⟩ :: _) _ _); refine wp_app1 tyB p5 rfl hn1.out rfl (.tmp 42) (.tmp 44) rfl rfl rfl ?_; intro v2 w7 k1 k2 k3)
      have r7 := r5.mod k2 (own_rd r5 hgw p2)
      refine ⟨⟨j + 1, out ++ [c], n, f, by omega, by omega, rfl, by simp; omega, by simp; omega, Lib.hid ⟨hfl, hve.out.symm⟩, k1, k3.fresh p2 m5.size, r7, m5.then_ k2 (fun b hb hh => absurd (p2 b hh) (by omega))⟩, ?_⟩
      rw [r7.at_, hat]; omega
    rw [if_neg h32] at hve
    have hcq : ((c.toNat : Int) != 32) = true := by
      rw [bne_iff_ne]
      intro hh
      exact h32 (UInt8.toNat_inj.1 (by show c.toNat = 32; omega))
    replace hve := Lib.hid hve
    clear h32 hcb
    go_wp2_with fail
    rw [← hw5]
    clear hw5 hwd r4 m4 p1 c0 c1 z1
    refine (sidx_any sepB c).mono ?_
    rintro e w6 ⟨rfl, hw6⟩
    rw [hw6]
    clear hw6
    obtain ⟨A, cc, rfl⟩ := p5.shape
    rw [List.length_map] at p5 p2 ⊢
    go_wp2_with ((with_reducible show wpList _ _ _ (⟨some 45, _, _, _, _, _⟩ :: _) _ _); refine wp_app1 tyB p5 rfl hn1.out rfl (.tmp 42) (.tmp 44) rfl rfl rfl ?_; intro v2 w7 k1 k2 k3; obtain ⟨A2, c2, rfl⟩ := own_shape1 k1)
    have r7 := r5.mod k2 (own_rd r5 hgw p2)
    refine ⟨⟨j + 1, out ++ [c], out.length + 1, f, by omega, by omega, by go_num, by simp, by simp; omega, Lib.hid ⟨hfl, hve.out.symm⟩, k1, k3.fresh p2 m5.size, r7, m5.then_ k2 (fun b hb hh => absurd (p2 b hh) (by omega))⟩, ?_⟩
    rw [r7.at_, hat]; omega
end Go.Proofs.Ytacmbomnjedbeaa
