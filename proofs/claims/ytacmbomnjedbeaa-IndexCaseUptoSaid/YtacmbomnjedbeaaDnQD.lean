/- dn: the document's reader: val. -/
import Derived.Test.YtacmbomnjedbeaaDnQC
namespace Go.Proofs.Ytacmbomnjedbeaa
open Go.RowKit
set_option maxRecDepth 100000

theorem own_rq {w : World} {g : Nat} {s : List UInt8} {k : Nat} {v : Value} {B : Nat} (_h : Rq w g s k) (hg : g < B) (hv : Fresh B v) : ¬ own v g := fun hh => by have := hv g hh; omega
theorem sep5 (c : UInt8) (h1 : c ≠ 44) (h2 : c ≠ 92) : c ∈ sepB ↔ c ∈ ([43, 34, 60, 62, 59] : List UInt8) := by
  simp only [sepB, List.mem_cons, List.not_mem_nil, or_false]
  constructor
  · rintro (h | h | h | h | h | h | h)
    · exact absurd h h1
    · exact .inl h
    · exact .inr (.inl h)
    · exact absurd h h2
    · exact .inr (.inr (.inl h))
    · exact .inr (.inr (.inr (.inl h)))
    · exact .inr (.inr (.inr (.inr h)))
  · rintro (h | h | h | h | h)
    · exact .inr (.inl h)
    · exact .inr (.inr (.inl h))
    · exact .inr (.inr (.inr (.inr (.inl h))))
    · exact .inr (.inr (.inr (.inr (.inr (.inl h)))))
    · exact .inr (.inr (.inr (.inr (.inr (.inr h)))))

theorem ext_mod_own {w a b : World} {g : Nat} {v : Value} (hm : Mod (fun b => b = g) w a) (hf : Fresh w.heap.size v) (h : Mod (own v) a b) : Mod (fun b => b = g) w b := hm.trans h (fun _ _ h => h) (fun k hk h => by have := hf k h; omega)

set_option maxHeartbeats 16000000 in
theorem qval_any {w : World} {g : Nat} {s : List UInt8} {k : Nat} (h : Rq w g s k) (hk : k ≤ s.length) (hl : s.length ≤ 140737488351232) :
    Calls Try.prog 67 #[.pointer (some ⟨g, 0, none⟩)] w fun e w' => ∃ (v : List UInt8) (ok : Bool) (j : Nat), e = .returned (.tuple #[sv v, .bool ok]) ∧ k ≤ j ∧ j ≤ s.length ∧ v.length ≤ s.length ∧ (ok = true → valF ((s.drop k).length + 1) (s.drop k) [] 0 = some (v, s.drop j) ∧ v ≠ []) ∧ (ok = false → ∀ p, valF ((s.drop k).length + 1) (s.drop k) [] 0 = some p → p.1 = []) ∧ Rq w' g s j ∧ Mod (fun b => b = g) w w' := by
  have hsz := sv_size s
  have hgw : g < w.heap.size := Blk.lt h
  obtain ⟨V, hV⟩ : ∃ V, V = valF ((s.drop k).length + 1) (s.drop k) [] 0 := ⟨_, rfl⟩
  rw [← hV]
  replace hV := Lib.hid hV
  have hdl : (s.drop k).length = s.length - k := List.length_drop
  replace hdl := Lib.hid hdl
  go_enter Try.func67, Try.ntmps67
  go_wp2_with fail
  go_loopw [4, 5] (fun vo vn wr => ∃ (j f : Nat) (out : List UInt8) (n : Nat), k ≤ j ∧ j ≤ s.length ∧ vn = .int .i64 n ∧ n ≤ out.length ∧ out.length ≤ j ∧ Hid (s.length < f + j ∧ valF f (s.drop j) out n = V) ∧ Own wr 5 vo (out.map bv) ∧ Fresh w.heap.size vo ∧ Rq wr g s j ∧ Mod (fun b => b = g) w wr) (fun _ _ wr => s.length - rdAt wr g)
  case atStart => exact ⟨k, (s.drop k).length + 1, [], 0, Nat.le_refl _, hk, rfl, Nat.le_refl _, Nat.zero_le _, Lib.hid ⟨by have := hdl.out; omega, hV.out.symm⟩, Own.nil _ _, fresh_nil _ _ _, h, Mod.refl _ _⟩
  case round =>
    obtain ⟨j, f, out, n, hj, hjl, rfl, hn, hoj, hv, p1, p2, rr, mr⟩ := hrel
    clear hV hdl h
    obtain ⟨c0, c1⟩ := rr.c
    have z1 : wr.frozen? ⟨g, 1, none⟩ = false := Blk.frozen rr 1
    have hat := rr.at_
    obtain ⟨f, rfl⟩ : ∃ f', f = f' + 1 := by
      have := hv.out.1
      cases f with
      | zero => omega
      | succ f => exact ⟨f, rfl⟩
    by_cases hlt : j < s.length
    case neg =>
      have hb1 : decide ((j : Int) < (s.length : Int)) = false := dfalse (by omega)
      have hVe : V = some (out.take n, s.drop j) := by rw [← hv.out.2, drop_end hlt, valF]
      replace hVe := Lib.hid hVe
      clear hv
      go_wp2_with fail
      go_quiet (fail)
      obtain ⟨w3, hw3⟩ : ∃ x, x = wr.drewN nq := ⟨_, rfl⟩
      rw [← hw3]
      have x3 : Ext wr w3 := by rw [hw3]; exact (Mod.refl _ wr).drewN nq
      clear hw3 nq c0 c1 z1
      have r3 := rr.mod x3 (fun h => h)
      have m3 : Mod (fun b => b = g) w w3 := mr.then_ x3 (fun _ _ h => h.elim)
      replace p1 := p1.mod x3 (fun _ _ h => h)
      obtain ⟨c0, c1⟩ := r3.c
      have z1 : w3.frozen? ⟨g, 1, none⟩ = false := Blk.frozen r3 1
      clear rr mr x3
      rcases p1.form with ⟨rfl, ho⟩ | ⟨g2, cap, rfl, q1, q2, q3⟩
      · simp only [List.map_eq_nil_iff] at ho
        subst ho
        obtain rfl : n = 0 := by simpa using hn
        have hcv := run_conv (P := Try.prog) (l := []) Try.underlying65 Try.underlying5 Try.underlying9 p1.sl
        clear hoj
        go_wp2_with fail
        go_ret2
        exact ⟨[], false, j, rfl, by omega, hjl, Nat.zero_le _, fun h => by simp at h, fun _ p hp => (by rw [hVe.out] at hp; cases hp; rfl), r3, m3⟩
      · rw [List.length_map] at q1
        have hpb := Own.begin p1 (m := n) (by simpa using hn)
        rw [← List.map_take] at hpb
        have hcv := run_conv (P := Try.prog) Try.underlying65 Try.underlying5 Try.underlying9 hpb.sl
        have hnl : (out.take n).length ≤ s.length := by rw [List.length_take]; omega
        have hlen : (out.take n).length = n := by rw [List.length_take]; omega
        have hn1 : (n : Int) ≤ (out.length : Int) := by omega
        replace hnl := Lib.hid hnl
        replace hlen := Lib.hid hlen
        clear p1 hpb
        by_cases hn0 : 0 < n
        · have hb0 : decide (0 < n) = true := dtrue hn0
          have hne : out.take n ≠ [] := fun h => by have := hlen.out; rw [h] at this; simp at this; omega
          go_wp2_with fail
          go_ret2
          exact ⟨out.take n, true, j, rfl, by omega, hjl, hnl.out, fun _ => ⟨by rw [hVe.out], hne⟩, fun h => by simp at h, r3, m3⟩
        · have hb0 : decide (0 < n) = false := dfalse hn0
          have hne : out.take n = [] := List.eq_nil_of_length_eq_zero (by have := hlen.out; omega)
          replace hne := Lib.hid hne
          go_wp2_with fail
          go_ret2
          exact ⟨out.take n, false, j, rfl, by omega, hjl, hnl.out, fun h => by simp at h, fun _ p hp => (by rw [hVe.out] at hp; cases hp; exact hne.out), r3, m3⟩
    have hb1 : decide ((j : Int) < (s.length : Int)) = true := dtrue (by omega)
    obtain ⟨c, hdr, hg⟩ := get_at hlt
    have hi0 : (0 : Int) ≤ (j : Int) := by omega
    have hi1 : (j : Int) < (s.length : Int) := by omega
    have hq : ((c.toNat : Int) != 44) = !decide (c = 44) := bne_lit c 44
    by_cases h44 : c = 44
    · rw [dtrue h44, Bool.not_true] at hq
      have hVe : V = some (out.take n, s.drop j) := by rw [← hv.out.2, hdr, valF, if_pos h44]
      replace hVe := Lib.hid hVe
      clear hv hdr h44
      go_wp2_with fail
      go_quiet (fail)
      obtain ⟨w3, hw3⟩ : ∃ x, x = wr.drewN nq := ⟨_, rfl⟩
      rw [← hw3]
      have x3 : Ext wr w3 := by rw [hw3]; exact (Mod.refl _ wr).drewN nq
      clear hw3 nq c0 c1 z1
      have r3 := rr.mod x3 (fun h => h)
      have m3 : Mod (fun b => b = g) w w3 := mr.then_ x3 (fun _ _ h => h.elim)
      replace p1 := p1.mod x3 (fun _ _ h => h)
      obtain ⟨c0, c1⟩ := r3.c
      have z1 : w3.frozen? ⟨g, 1, none⟩ = false := Blk.frozen r3 1
      clear rr mr x3
      rcases p1.form with ⟨rfl, ho⟩ | ⟨g2, cap, rfl, q1, q2, q3⟩
      · simp only [List.map_eq_nil_iff] at ho
        subst ho
        obtain rfl : n = 0 := by simpa using hn
        have hcv := run_conv (P := Try.prog) (l := []) Try.underlying65 Try.underlying5 Try.underlying9 p1.sl
        clear hoj
        go_wp2_with fail
        go_ret2
        exact ⟨[], false, j, rfl, by omega, hjl, Nat.zero_le _, fun h => by simp at h, fun _ p hp => (by rw [hVe.out] at hp; cases hp; rfl), r3, m3⟩
      · rw [List.length_map] at q1
        have hpb := Own.begin p1 (m := n) (by simpa using hn)
        rw [← List.map_take] at hpb
        have hcv := run_conv (P := Try.prog) Try.underlying65 Try.underlying5 Try.underlying9 hpb.sl
        have hnl : (out.take n).length ≤ s.length := by rw [List.length_take]; omega
        have hlen : (out.take n).length = n := by rw [List.length_take]; omega
        have hn1 : (n : Int) ≤ (out.length : Int) := by omega
        replace hnl := Lib.hid hnl
        replace hlen := Lib.hid hlen
        clear p1 hpb
        by_cases hn0 : 0 < n
        · have hb0 : decide (0 < n) = true := dtrue hn0
          have hne : out.take n ≠ [] := fun h => by have := hlen.out; rw [h] at this; simp at this; omega
          go_wp2_with fail
          go_ret2
          exact ⟨out.take n, true, j, rfl, by omega, hjl, hnl.out, fun _ => ⟨by rw [hVe.out], hne⟩, fun h => by simp at h, r3, m3⟩
        · have hb0 : decide (0 < n) = false := dfalse hn0
          have hne : out.take n = [] := List.eq_nil_of_length_eq_zero (by have := hlen.out; omega)
          replace hne := Lib.hid hne
          go_wp2_with fail
          go_ret2
          exact ⟨out.take n, false, j, rfl, by omega, hjl, hnl.out, fun h => by simp at h, fun _ p hp => (by rw [hVe.out] at hp; cases hp; exact hne.out), r3, m3⟩
    rw [dfalse h44, Bool.not_false] at hq
    go_wp2_with fail
    go_quiet (fail)
    obtain ⟨w4, hw4⟩ : ∃ x, x = wr.drewN nq := ⟨_, rfl⟩
    rw [← hw4]
    have x4 : Ext wr w4 := by rw [hw4]; exact (Mod.refl _ wr).drewN nq
    clear hw4 nq c0 c1 z1
    have r4 := rr.mod x4 (fun h => h)
    have m4 : Mod (fun b => b = g) w w4 := mr.then_ x4 (fun _ _ h => h.elim)
    replace p1 := p1.mod x4 (fun _ _ h => h)
    obtain ⟨c0, c1⟩ := r4.c
    have z1 : w4.frozen? ⟨g, 1, none⟩ = false := Blk.frozen r4 1
    clear rr mr x4
    go_wp2_with fail
    go_quiet (fail)
    obtain ⟨w5, hw5⟩ : ∃ x, x = w4.drewN nq := ⟨_, rfl⟩
    rw [← hw5]
    have x5 : Ext w4 w5 := by rw [hw5]; exact (Mod.refl _ w4).drewN nq
    clear hw5 nq c0 c1 z1
    have r5 := r4.mod x5 (fun h => h)
    have m5 : Mod (fun b => b = g) w w5 := m4.then_ x5 (fun _ _ h => h.elim)
    replace p1 := p1.mod x5 (fun _ _ h => h)
    obtain ⟨c0, c1⟩ := r5.c
    have z1 : w5.frozen? ⟨g, 1, none⟩ = false := Blk.frozen r5 1
    clear r4 m4 x5
    clear hq hb1 hg
    have hn1 := Lib.hid (show out.length + 1 ≤ 140737488355328 by omega)
    have hq2 : ((c.toNat : Int) == 92) = decide (c = 92) := beq_lit c 92
    have hfl := Lib.hid (show s.length < f + (j + 1) by have := hv.out.1; omega)
    by_cases h92 : c = 92
    · rw [dtrue h92] at hq2
      have hve : V = (escR (s.drop (j + 1))).bind fun p => valF f p.2 (out ++ [p.1]) (out.length + 1) := by
        rw [← hv.out.2, hdr, valF, if_neg h44, if_pos h92]
      replace hve := Lib.hid hve
      clear hv hdr h44 h92 hi0 hi1
      go_wp2_with fail
      clear c0 c1 z1
      refine (qstroke_any r5 hlt hl).mono ?_
      rintro e w6 ⟨b, ok, j2, rfl, hj2, hj2l, hj2s, hes, r6, m6⟩
      have hve2 := hve.out
      rw [hes] at hve2
      have p6 := p1.mod m6 (fun b hb hbg => own_rq r5 hgw p2 (hbg ▸ hb))
      have m7 := m5.then_ m6 (fun _ _ h => h)
      clear hve hes r5 m5 m6 p1
      cases ok
      · have hV0 : Hid (V = none) := Lib.hid hve2
        clear hve2
        go_wp2_with fail
        go_ret2
        exact ⟨[], false, j2, rfl, by omega, hj2l, Nat.zero_le _, fun h => by simp at h, fun _ p hp => (by rw [hV0.out] at hp; cases hp), r6, m7⟩
      have hj3 := hj2s rfl
      replace hve2 := Lib.hid (show V = valF f (s.drop j2) (out ++ [b]) (out.length + 1) from hve2)
      obtain ⟨A, cc, rfl⟩ := p6.shape
      rw [List.length_map] at p6 p2
      go_wp2_with ((with_reducible show wpList _ _ _ (⟨some 68, _, _, _, _, _⟩ :: _) _ _); refine wp_app1 tyB p6 rfl hn1.out rfl (.tmp 65) (.tmp 67) rfl rfl rfl ?_; intro v2 w7 k1 k2 k3; obtain ⟨A7, c7, hsh⟩ := own_shape1 k1; subst hsh)
      have r7 := r6.mod k2 (own_rq r6 hgw p2)
      refine ⟨⟨j2, f, out ++ [b], out.length + 1, by omega, hj2l, by go_num, by simp, by rw [List.length_append, List.length_singleton]; omega, Lib.hid ⟨by have := hfl.out; omega, hve2.out.symm⟩, k1, k3.fresh p2 m7.size, r7, ext_mod_own m7 p2 k2⟩, ?_⟩
      rw [r7.at_, hat]; omega
    rw [dfalse h92] at hq2
    go_wp2_with fail
    refine (in_any c [43, 34, 60, 62, 59] (by simp)).mono ?_
    rintro e w6 ⟨rfl, hw6⟩
    rw [hw6]
    clear hw6 w6
    by_cases hm : c ∈ ([43, 34, 60, 62, 59] : List UInt8)
    · rw [dtrue hm]
      have hV0 : Hid (V = none) := Lib.hid (by rw [← hv.out.2, hdr, valF, if_neg h44, if_neg h92, if_pos ((sep5 c h44 h92).2 hm)])
      clear hv hdr hm h44 h92
      go_wp2_with fail
      go_ret2
      exact ⟨[], false, j, rfl, by omega, hjl, Nat.zero_le _, fun h => by simp at h, fun _ p hp => (by rw [hV0.out] at hp; cases hp), r5, m5⟩
    rw [dfalse hm]
    have hve : V = valF f (s.drop (j + 1)) (out ++ [c]) (if c = 32 then n else out.length + 1) := by
      rw [← hv.out.2, hdr, valF, if_neg h44, if_neg h92, if_neg (fun h => hm ((sep5 c h44 h92).1 h))]
    have hq3 : ((c.toNat : Int) != 32) = !decide (c = 32) := bne_lit c 32
    clear hv hdr hm h44 h92 hq2
    obtain ⟨A, cc, rfl⟩ := p1.shape
    rw [List.length_map] at p1 p2
    by_cases h32 : c = 32
    · rw [dtrue h32, Bool.not_true] at hq3
      rw [if_pos h32] at hve
      replace hve := Lib.hid hve
      clear h32
      go_wp2_with ((with_reducible show wpList _ _ _ (⟨some 43, _, _, _, _, _⟩ :: _) _ _); refine wp_app1 tyB p1 rfl hn1.out rfl (.tmp 40) (.tmp 42) rfl rfl rfl ?_; intro v2 w7 k1 k2 k3; have r7 := r5.mod k2 (own_rq r5 hgw p2); obtain ⟨d0, d1⟩ := r7.c; have z7 : w7.frozen? ⟨g, 1, none⟩ = false := Blk.frozen r7 1)
      have r8 := r7.step (j + 1) ((j : Int) + 1) (by omega)
      refine ⟨⟨j + 1, f, out ++ [c], n, by omega, by omega, by go_num, by rw [List.length_append, List.length_singleton]; omega, by rw [List.length_append, List.length_singleton]; omega, Lib.hid ⟨hfl.out, hve.out.symm⟩, k1.mod (Mod.setCell (Mod.refl (fun b => b = g) _) (p := ⟨g, 1, none⟩) (fun _ => rfl) _) (fun b hb hbg => own_rq r7 (B := w.heap.size) hgw (k3.fresh p2 m5.size) (hbg ▸ hb)), k3.fresh p2 m5.size, r8, (ext_mod_own m5 p2 k2).setCell (p := ⟨g, 1, none⟩) (fun _ => rfl) _⟩, ?_⟩
      rw [r8.at_, hat]; omega
    · rw [dfalse h32, Bool.not_false] at hq3
      rw [if_neg h32] at hve
      replace hve := Lib.hid hve
      clear h32
      go_wp2_with ((with_reducible show wpList _ _ _ (⟨some 43, _, _, _, _, _⟩ :: _) _ _); refine wp_app1 tyB p1 rfl hn1.out rfl (.tmp 40) (.tmp 42) rfl rfl rfl ?_; intro v2 w7 k1 k2 k3; have r7 := r5.mod k2 (own_rq r5 hgw p2); obtain ⟨d0, d1⟩ := r7.c; have z7 : w7.frozen? ⟨g, 1, none⟩ = false := Blk.frozen r7 1; obtain ⟨A7, c7, hsh⟩ := own_shape1 k1; subst hsh)
      have r8 := r7.step (j + 1) ((j : Int) + 1) (by omega)
      refine ⟨⟨j + 1, f, out ++ [c], out.length + 1, by omega, by omega, by go_num, by rw [List.length_append, List.length_singleton]; omega, by rw [List.length_append, List.length_singleton]; omega, Lib.hid ⟨hfl.out, hve.out.symm⟩, k1.mod (Mod.setCell (Mod.refl (fun b => b = g) _) (p := ⟨g, 1, none⟩) (fun _ => rfl) _) (fun b hb hbg => own_rq r7 (B := w.heap.size) hgw (k3.fresh p2 m5.size) (hbg ▸ hb)), k3.fresh p2 m5.size, r8, (ext_mod_own m5 p2 k2).setCell (p := ⟨g, 1, none⟩) (fun _ => rfl) _⟩, ?_⟩
      rw [r8.at_, hat]; omega
end Go.Proofs.Ytacmbomnjedbeaa
