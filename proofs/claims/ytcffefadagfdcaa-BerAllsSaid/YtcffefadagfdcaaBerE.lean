/- ber: Next. -/
import Derived.Test.YtcffefadagfdcaaBerD
import Derived.Deep.DeepCutAuto
import Derived.Deep.RegionHeld3
import Derived.BigQuiet
import Derived.Deep.QuietTactic
namespace Go.Proofs.Ytcffefadagfdcaa
open Go.RowKit
set_option maxRecDepth 100000

theorem results_tmp4 {fn : Func} {t u v x : Tmp} (h : fn.results = #[.tmp t, .tmp u, .tmp v, .tmp x]) (tmps : Array Value) (P : Program) (w : World) :
    (results fn tmps).run P w = .ok (.tuple #[tmps.getD t undef, tmps.getD u undef, tmps.getD v undef, tmps.getD x undef]) w := by
  simp [results, h]
theorem bfin_ok {a n len : Nat} (h : (bfin a n len).2.2 = 0) (ha : a ≤ len) : (bfin a n len).1 = a ∧ (bfin a n len).2.1 = a + n ∧ a + n ≤ len ∧ n ≤ 65536 := by
  unfold bfin at h ⊢
  by_cases h1 : 65536 < n
  · rw [if_pos h1] at h; cases h
  rw [if_neg h1] at h ⊢
  by_cases h2 : len - a < n
  · rw [if_pos h2] at h; cases h
  rw [if_neg h2]
  exact ⟨rfl, rfl, by omega, by omega⟩
theorem blook_ok {l : List UInt8} (h : (blook l).2.2 = 0) : 2 ≤ (blook l).1 ∧ (blook l).1 ≤ (blook l).2.1 ∧ (blook l).2.1 ≤ l.length := by
  unfold blook at h ⊢
  split at h
  · cases h
  rw [if_neg (by assumption)]
  split at h
  · cases h
  rw [if_neg (by assumption)]
  split at h
  · cases h
  rw [if_neg (by assumption)]
  split at h
  · rw [if_pos (by assumption)]
    have := bfin_ok h (by omega)
    omega
  rw [if_neg (by assumption)]
  split at h
  · cases h
  rw [if_neg (by assumption)]
  split at h
  · cases h
  rw [if_neg (by assumption)]
  have := bfin_ok h (by omega)
  omega
/-- The first one, and what stands behind. -/
def bnext (l : List UInt8) : UInt8 × List UInt8 × List UInt8 × Nat :=
  if (blook l).2.2 = 0 then (l.getD 0 0, (l.drop (blook l).1).take ((blook l).2.1 - (blook l).1), l.drop (blook l).2.1, 0) else (0, [], [], (blook l).2.2)

set_option maxHeartbeats 1000000 in
theorem bnext_any {w : World} {S : Nat → Prop} {v : Value} {l : List UInt8} (h : Bs w S v l) (hl : l.length ≤ 140737488355328) :
    Calls Try.prog 22 #[v] w fun e w' => ∃ v1 v2, e = .returned (.tuple #[.int .u8 (bnext l).1.toNat, v1, v2, .int .i64 ((bnext l).2.2.2 : Nat)]) ∧ Own w' 5 v1 ((bnext l).2.1.map bv) ∧ Own w' 5 v2 ((bnext l).2.2.1.map bv) ∧ Fresh w.heap.size v1 ∧ Fresh w.heap.size v2 ∧ Ext w w' := by
  have hok := @blook_ok l
  have h0 := h
  obtain ⟨A, c, rfl, h1, h2, h3, h4⟩ := h.open_
  obtain ⟨o, ho⟩ : ∃ o, o = bnext l := ⟨_, rfl⟩
  rw [← ho]
  unfold bnext at ho
  replace ho := Lib.hid ho
  go_enter Try.func22, Try.ntmps22
  go_wp2_with fail
  refine (blook_any h0 hl).mono ?_
  rintro e w1 ⟨rfl, rfl⟩
  replace ho := ho.out
  generalize blook l = d at *
  obtain ⟨m, n, er⟩ := d
  simp only at hok ho ⊢
  by_cases hd : er = 0
  · subst hd
    obtain ⟨a1, a2, a3⟩ := hok rfl
    clear hok
    rw [if_pos rfl] at ho
    obtain ⟨ad, hA, hB, hc0⟩ := h4.byte (k := 0) (by omega)
    subst hA
    rw [show ad.add 0 = ad by simp [Addr.add]] at hc0
    rw [show l.getD 0 0 = l[0] by rw [List.getD_eq_getElem?_getD, List.getElem?_eq_getElem (by omega)]; rfl] at ho
    have hi0 : 0 < l.length := by omega
    generalize l[0] = b0 at *
    replace ho := Lib.hid ho
    have x1 : (0 : Int) ≤ (m : Int) := by omega
    have x2 : (m : Int) ≤ (n : Int) := by omega
    have x3 : (n : Int) ≤ (l.length : Int) := by omega
    have x4 : (n : Int) ≤ (c : Int) := by omega
    have x5 : (0 : Int) ≤ (n : Int) := by omega
    have x6 : (l.length : Int) ≤ (c : Int) := by omega
    have hx : ∀ wx, Ext w1.drew wx → wx.cell? ad = some (.int .u8 (b0.toNat : Int)) := fun wx hx => (hx.cell (lt_of_cell (w := w1) hc0) (fun h => h)).trans hc0
    have hl1 : ((l.drop m).take (n - m)).length ≤ 281474976710656 := by simp only [List.length_take, List.length_drop]; omega
    have hl2 : (l.drop n).length ≤ 281474976710656 := by simp only [List.length_drop]; omega
    have hbd : Bs w1.drew S (.slice (some ad) l.length c) l := h0
    have three : (n = c ∧ m = c ∧ Bs w1.drew S (.slice (some ad) (n - m) 0) ((l.drop m).take (n - m)) ∧ Bs w1.drew S (.slice (some ad) (l.length - n) 0) (l.drop n)) ∨ (n = c ∧ ¬ c = m ∧ Bs w1.drew S (.slice (some (ad.add m)) (n - m) (c - m)) ((l.drop m).take (n - m)) ∧ Bs w1.drew S (.slice (some ad) (l.length - n) 0) (l.drop n)) ∨ (¬ c = n ∧ ¬ c = m ∧ Bs w1.drew S (.slice (some (ad.add m)) (n - m) (c - m)) ((l.drop m).take (n - m)) ∧ Bs w1.drew S (.slice (some (ad.add n)) (l.length - n) (c - n)) (l.drop n)) := by
      have t1 : ¬ c = m → Bs w1.drew S (.slice (some (ad.add m)) (n - m) (c - m)) ((l.drop m).take (n - m)) := fun _ => by
        have := hbd.rest (m := m) (by omega)
        rw [show l.length - m = (l.drop m).length by simp] at this
        exact this.begin (m := n - m) (by simp; omega)
      have t2 : n = c → Bs w1.drew S (.slice (some ad) (l.length - n) 0) (l.drop n) := fun h => hbd.rest0 (m := n) (by omega) h.symm
      by_cases hcm : c = m
      · refine .inl ⟨by omega, hcm.symm, ?_, t2 (by omega)⟩
        have := hbd.rest0 (m := m) (by omega) hcm
        rw [show l.length - m = (l.drop m).length by simp] at this
        exact this.begin (m := n - m) (by simp; omega)
      · by_cases hcn : n = c
        · exact .inr (.inl ⟨hcn, hcm, t1 hcm, t2 hcn⟩)
        · exact .inr (.inr ⟨fun h => hcn h.symm, hcm, t1 hcm, hbd.rest (m := n) (by omega)⟩)
    clear h h0 h4 h3 hbd hl
    generalize (l.drop m).take (n - m) = bd at *
    generalize l.drop n = rs at *
    rcases three with ⟨hcn, hcm, hb1, hb2⟩ | ⟨hcn, hcm, hb1, hb2⟩ | ⟨hcn, hcm, hb1, hb2⟩
    · subst hcn
      subst hcm
      rw [Nat.sub_self] at hb1
      rw [show l.length - m = 0 by omega] at hb2
      have e1 : bd = [] := List.eq_nil_of_length_eq_zero (by obtain ⟨_, _, h, _⟩ := hb1.open_; injection h with _ h; exact h.symm)
      have e2 : rs = [] := List.eq_nil_of_length_eq_zero (by obtain ⟨_, _, h, _⟩ := hb2.open_; injection h with _ h; exact h.symm)
      subst e1
      subst e2
      go_upto_region 4 with fail
      go_cut [2, 3, 4, 5] (fun s2 s3 s4 s5 wx => s2 = .int .u8 (b0.toNat : Int) ∧ s5 = .int .i64 0 ∧ Own wx 5 s3 (([] : List UInt8).map bv) ∧ Own wx 5 s4 (([] : List UInt8).map bv) ∧ Fresh w1.heap.size s3 ∧ Fresh w1.heap.size s4 ∧ Ext w1 wx)
      case first =>
        go_region_held3 (fun w' => w'.cell? ad = some (.int .u8 (b0.toNat : Int))) (first | exact hc0 | exact hx _ p3 | exact hx _ q3 | exact hx _ (ext_trans p3 q3) | exact hx _ (ext_trans q3 p3))
          ((go_at_call 39; first
            | (with_reducible show Calls _ _ #[.slice (some ad) _ _] w1.drew _; refine (bown_any hb1 hl1).mono ?_; rintro e w2 ⟨v1, rfl, p1, p2, p3, p4⟩)
            | (with_reducible show Calls _ _ #[.slice (some ad) _ _] _ _; refine (bown_any (hb2.ext p3) hl2).mono ?_; rintro e w3 ⟨v2, rfl, q1, q2, q3, q4⟩; replace q2 := q2.mono p3.size; replace p1 := p1.mod q3 (fun _ _ h => h))))
        all_goals go_wp2_with fail
        all_goals go_meet
        all_goals first
          | exact ⟨rfl, rfl, p1, q1, p2, q2, ((Mod.refl _ w1).drew).trans (ext_trans p3 q3) (fun _ _ h => h) (fun _ _ h => h)⟩
          | exact ⟨rfl, rfl, q1, p1, q2, p2, ((Mod.refl _ w1).drew).trans (ext_trans p3 q3) (fun _ _ h => h) (fun _ _ h => h)⟩
          | exact ⟨rfl, rfl, p1, q1, p2, q2, ((Mod.refl _ w1).drew).trans (ext_trans q3 p3) (fun _ _ h => h) (fun _ _ h => h)⟩
      case rest =>
        obtain ⟨rfl, rfl, r1, r2, r3, r4, r5⟩ := hcut
        go_wp2_with fail
        (try simp only [Exit.inBlock, Exit.then]); refine bodyPost_ret (results_tmp4 rfl _ _ _) rfl ?_
        rw [ho.out]
        exact ⟨_, _, rfl, r1, r2, r3, r4, r5⟩
    · subst hcn
      rw [show l.length - n = 0 by omega] at hb2
      go_upto_region 4 with fail
      go_cut [2, 3, 4, 5] (fun s2 s3 s4 s5 wx => s2 = .int .u8 (b0.toNat : Int) ∧ s5 = .int .i64 0 ∧ Own wx 5 s3 (bd.map bv) ∧ Own wx 5 s4 (rs.map bv) ∧ Fresh w1.heap.size s3 ∧ Fresh w1.heap.size s4 ∧ Ext w1 wx)
      case first =>
        go_region_held3 (fun w' => w'.cell? ad = some (.int .u8 (b0.toNat : Int))) (first | exact hc0 | exact hx _ p3 | exact hx _ q3 | exact hx _ (ext_trans p3 q3) | exact hx _ (ext_trans q3 p3))
          ((go_at_call 39; first
            | (with_reducible show Calls _ _ #[.slice (some (ad.add m)) _ _] w1.drew _; refine (bown_any hb1 hl1).mono ?_; rintro e w2 ⟨v1, rfl, p1, p2, p3, p4⟩)
            | (with_reducible show Calls _ _ #[.slice (some (ad.add m)) _ _] _ _; refine (bown_any (hb1.ext q3) hl1).mono ?_; rintro e w3 ⟨v1, rfl, p1, p2, p3, p4⟩; replace p2 := p2.mono q3.size; replace q1 := q1.mod p3 (fun _ _ h => h))
            | (with_reducible show Calls _ _ #[.slice (some ad) _ _] w1.drew _; refine (bown_any hb2 hl2).mono ?_; rintro e w2 ⟨v2, rfl, q1, q2, q3, q4⟩)
            | (with_reducible show Calls _ _ #[.slice (some ad) _ _] _ _; refine (bown_any (hb2.ext p3) hl2).mono ?_; rintro e w3 ⟨v2, rfl, q1, q2, q3, q4⟩; replace q2 := q2.mono p3.size; replace p1 := p1.mod q3 (fun _ _ h => h))))
        all_goals go_wp2_with fail
        all_goals go_meet
        all_goals first
          | exact ⟨rfl, rfl, p1, q1, p2, q2, ((Mod.refl _ w1).drew).trans (ext_trans p3 q3) (fun _ _ h => h) (fun _ _ h => h)⟩
          | exact ⟨rfl, rfl, q1, p1, q2, p2, ((Mod.refl _ w1).drew).trans (ext_trans p3 q3) (fun _ _ h => h) (fun _ _ h => h)⟩
          | exact ⟨rfl, rfl, p1, q1, p2, q2, ((Mod.refl _ w1).drew).trans (ext_trans q3 p3) (fun _ _ h => h) (fun _ _ h => h)⟩
      case rest =>
        obtain ⟨rfl, rfl, r1, r2, r3, r4, r5⟩ := hcut
        go_wp2_with fail
        (try simp only [Exit.inBlock, Exit.then]); refine bodyPost_ret (results_tmp4 rfl _ _ _) rfl ?_
        rw [ho.out]
        exact ⟨_, _, rfl, r1, r2, r3, r4, r5⟩
    · skip
      go_upto_region 4 with fail
      go_cut [2, 3, 4, 5] (fun s2 s3 s4 s5 wx => s2 = .int .u8 (b0.toNat : Int) ∧ s5 = .int .i64 0 ∧ Own wx 5 s3 (bd.map bv) ∧ Own wx 5 s4 (rs.map bv) ∧ Fresh w1.heap.size s3 ∧ Fresh w1.heap.size s4 ∧ Ext w1 wx)
      case first =>
        go_region_held3 (fun w' => w'.cell? ad = some (.int .u8 (b0.toNat : Int))) (first | exact hc0 | exact hx _ p3 | exact hx _ q3 | exact hx _ (ext_trans p3 q3) | exact hx _ (ext_trans q3 p3))
          ((go_at_call 39; first
            | (with_reducible show Calls _ _ #[.slice (some (ad.add m)) _ _] w1.drew _; refine (bown_any hb1 hl1).mono ?_; rintro e w2 ⟨v1, rfl, p1, p2, p3, p4⟩)
            | (with_reducible show Calls _ _ #[.slice (some (ad.add m)) _ _] _ _; refine (bown_any (hb1.ext q3) hl1).mono ?_; rintro e w3 ⟨v1, rfl, p1, p2, p3, p4⟩; replace p2 := p2.mono q3.size; replace q1 := q1.mod p3 (fun _ _ h => h))
            | (with_reducible show Calls _ _ #[.slice (some (ad.add n)) _ _] w1.drew _; refine (bown_any hb2 hl2).mono ?_; rintro e w2 ⟨v2, rfl, q1, q2, q3, q4⟩)
            | (with_reducible show Calls _ _ #[.slice (some (ad.add n)) _ _] _ _; refine (bown_any (hb2.ext p3) hl2).mono ?_; rintro e w3 ⟨v2, rfl, q1, q2, q3, q4⟩; replace q2 := q2.mono p3.size; replace p1 := p1.mod q3 (fun _ _ h => h))))
        all_goals go_wp2_with fail
        all_goals go_meet
        all_goals first
          | exact ⟨rfl, rfl, p1, q1, p2, q2, ((Mod.refl _ w1).drew).trans (ext_trans p3 q3) (fun _ _ h => h) (fun _ _ h => h)⟩
          | exact ⟨rfl, rfl, q1, p1, q2, p2, ((Mod.refl _ w1).drew).trans (ext_trans p3 q3) (fun _ _ h => h) (fun _ _ h => h)⟩
          | exact ⟨rfl, rfl, p1, q1, p2, q2, ((Mod.refl _ w1).drew).trans (ext_trans q3 p3) (fun _ _ h => h) (fun _ _ h => h)⟩
      case rest =>
        obtain ⟨rfl, rfl, r1, r2, r3, r4, r5⟩ := hcut
        go_wp2_with fail
        (try simp only [Exit.inBlock, Exit.then]); refine bodyPost_ret (results_tmp4 rfl _ _ _) rfl ?_
        rw [ho.out]
        exact ⟨_, _, rfl, r1, r2, r3, r4, r5⟩
  · have hd1 : ((er : Int) != 0) = true := by rw [bne_iff_ne]; omega
    rw [if_neg hd] at ho
    subst ho
    go_wp2_with fail
    (try simp only [Exit.inBlock, Exit.then]); refine bodyPost_ret (results_tmp4 rfl _ _ _) rfl ?_
    exact ⟨_, _, rfl, Own.nil _ _, Own.nil _ _, fresh_nil _ _ _, fresh_nil _ _ _, Mod.refl _ _⟩
end Go.Proofs.Ytcffefadagfdcaa
