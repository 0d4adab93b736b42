/- mem: Put. -/
import Derived.Test.YtlfooppmdgddkaaMemE
namespace Go.Proofs.Ytlfooppmdgddkaa
open Go.RowKit
set_option maxRecDepth 100000

def sizeC (c : Ce) : Nat := c.key.length + c.val.length + 16
def sizeL : List Ce → Nat
  | [] => 0
  | c :: L => sizeC c + sizeL L
theorem sizeL_app (L M : List Ce) : sizeL (L ++ M) = sizeL L + sizeL M := by
  induction L with
  | nil => simp [sizeL]
  | cons c L ih => simp only [List.cons_append, sizeL, ih]; omega
theorem sizeL_ins (L : List Ce) (c : Ce) : sizeL (insC L c) = sizeL L + sizeC c := by
  have := congrArg sizeL (from_split L c)
  rw [sizeL_app] at this
  unfold insC
  rw [sizeL_app, sizeL]
  omega
instance (L : List Ce) (c : Ce) : Decidable (hasC L c) := inferInstanceAs (Decidable (∃ d ∈ L, _))
/-- Whether a cell is laid, and what there is then. -/
def putL (L : List Ce) (c : Ce) : Bool × List Ce := if isC c ∧ ¬ hasC L c then (true, insC L c) else (false, L)

/-- A Mem of cells L. -/
def Mt (w : World) (S : Nat → Prop) (g : Nat) (D : List Int) (L : List Ce) : Prop :=
  ∃ N A vd vn va, Mx w S g D N A (sizeL L) vd vn va ∧ ((N = [] ∧ A = [] ∧ L = []) ∨ (Sk N A ∧ Ls N L ∧ N.length = L.length + 1 ∧ A.length ≤ 12 * N.length)) ∧ ∀ c ∈ L, isC c

theorem Mx.storeA' {w : World} {S : Nat → Prop} {g n : Nat} {D : List Int} {N : List Nd} {A : List Nat} {vd vn va : Value} {ga l c j y : Nat} (m : Mx w S g D N A n vd vn va) (hva : va = .slice (some ⟨ga, 0, none⟩) l c) :
    Mx (w.setCell ⟨ga, j, none⟩ (nv y)) S g D N (A.set j y) n vd vn va ∧ Mod S w (w.setCell ⟨ga, j, none⟩ (nv y)) := by
  subst hva
  have : l = A.length := by simpa using m.a.length_eq
  subst this
  exact m.storeA
theorem p12 (P : Nat → Nat) {k : Nat} (hk : k < 12) : (#[nv (P 0), nv (P 1), nv (P 2), nv (P 3), nv (P 4), nv (P 5), nv (P 6), nv (P 7), nv (P 8), nv (P 9), nv (P 10), nv (P 11)] : Array Value)[k]? = some (nv (P k)) := by
  match k, hk with
  | 0, _ => rfl
  | 1, _ => rfl
  | 2, _ => rfl
  | 3, _ => rfl
  | 4, _ => rfl
  | 5, _ => rfl
  | 6, _ => rfl
  | 7, _ => rfl
  | 8, _ => rfl
  | 9, _ => rfl
  | 10, _ => rfl
  | 11, _ => rfl
theorem sizeL_le {L : List Ce} (h : ∀ c ∈ L, isC c) : sizeL L ≤ 20496 * L.length := by
  induction L with
  | nil => simp [sizeL]
  | cons a L ih =>
    have h1 := h a (List.mem_cons_self ..)
    have h2 := ih fun c hc => h c (List.mem_cons_of_mem _ hc)
    obtain ⟨_, q1, q2, _⟩ := h1
    simp only [sizeL, sizeC, List.length_cons]
    omega
theorem spot_at {w : World} {S : Nat → Prop} {g n : Nat} {D : List Int} {N : List Nd} {A : List Nat} {vd vn va : Value} {ga l ca : Nat} (hva : va = .slice (some ⟨ga, 0, none⟩) l ca) (m : Mx w S g D N A n vd vn va) {a h q : Nat} (ha : a < N.length) (hq : (nd N a).t + h = q) (hh : q < A.length) :
    Calls Try.prog 78 #[.pointer (some ⟨g, 0, none⟩), .int .i64 a, .int .i64 h] w fun e w' => e = .returned (.pointer (some ⟨ga, q, none⟩)) ∧ ∃ k, w' = w.drewN k := by
  refine (spot_any m ha (by omega)).mono ?_
  rintro e w' ⟨⟨ga', ca', h1, rfl⟩, k, rfl⟩
  rw [hva] at h1
  cases h1
  exact ⟨by rw [hq], k, rfl⟩

set_option maxHeartbeats 8000000 in
theorem put_any {w : World} {S : Nat → Prop} {g : Nat} {D : List Int} {L : List Ce} (M : Mt w S g D L) (c : Ce) (hL : L.length ≤ 10000) (hD : D.length ≤ 1000000) :
    Calls Try.prog 38 #[.pointer (some ⟨g, 0, none⟩), .agg (car c)] w fun e w' => e = .returned (.bool (putL L c).1) ∧ Mt w' (fun k => S k ∨ w.heap.size ≤ k) g D (putL L c).2 ∧ Mod S w w' := by
  obtain ⟨N, A, vd, vn, va, m, hNA, hC⟩ := M
  have x0 : Ext w (w.alloc (.cells (car c) 23)) := (Mod.refl _ w).alloc _
  have B0 : Blk (w.alloc (.cells (car c) 23)) w.heap.size 23 (car c) := Blk.new w _ _
  have hs0 : w.heap.size < (w.alloc (.cells (car c) 23)).heap.size := by simp
  obtain ⟨w0, hw0⟩ : ∃ w0, w0 = w.alloc (.cells (car c) 23) := ⟨_, rfl⟩
  rw [← hw0] at x0 B0 hs0
  obtain ⟨d0, d1, d2, d3⟩ : w0.cell? ⟨w.heap.size, 0, none⟩ = some (sv c.key) ∧ w0.cell? ⟨w.heap.size, 1, none⟩ = some (sv c.val) ∧ w0.cell? ⟨w.heap.size, 2, none⟩ = some (.bool c.del) ∧ w0.cell? ⟨w.heap.size, 3, none⟩ = some (.int .i64 c.seq) := ⟨B0.cell 0, B0.cell 1, B0.cell 2, B0.cell 3⟩
  replace hw0 := Lib.hid hw0
  obtain ⟨R, hR⟩ : ∃ R, R = putL L c := ⟨_, rfl⟩
  rw [← hR]
  replace hR := Lib.hid hR
  go_enter Try.func38, Try.ntmps38
  go_upto_region 1 with fail
  rw [← hw0.out]
  go_wp2_with fail
  refine (is_any c).mono ?_
  rintro e w1 ⟨rfl, x1⟩
  by_cases hic : isC c
  case neg =>
    have hR1 : Hid (R = (false, L)) := Lib.hid (by rw [hR.out]; unfold putL; rw [if_neg (fun h => hic h.1)])
    rw [dfalse hic]
    clear hic hR
    go_wp2_with fail
    go_ret
    exact ⟨by rw [hR1.out]; rfl, by rw [hR1.out]; exact ⟨N, A, vd, vn, va, (m.ext (ext_trans x0 x1)).mono (fun k _ h => .inl h), hNA, hC⟩, (ext_trans x0 x1).mono (fun _ _ h => h.elim)⟩
  rw [dtrue hic]
  replace B0 := B0.mod x1 (fun h => h)
  have xw := ext_trans x0 x1
  have hs1 : w.heap.size < w1.heap.size := by have := x1.size; omega
  obtain ⟨T, hT⟩ : ∃ T : Nat → Prop, T = fun k => (S k ∧ k < w.heap.size) ∨ w1.heap.size ≤ k := ⟨_, rfl⟩
  have m0 := ((m.mono (T := fun k => (S k ∧ k < w.heap.size) ∨ w1.heap.size ≤ k) (fun k hk hs => .inl ⟨hs, hk⟩))).ext xw
  rw [← hT] at m0
  have hTup : Hid (∀ k, w1.heap.size ≤ k → T k) := Lib.hid (by rw [hT]; exact fun k hk => .inr hk)
  have hTS : Hid (∀ k, T k → (S k ∧ k < w.heap.size) ∨ w1.heap.size ≤ k) := Lib.hid (by rw [hT]; exact fun k h => h)
  clear hT x0 x1 d0 d1 d2 d3 hw0 w0 hs0
  have b1 : w1.cell? ⟨g, 1, none⟩ = some vn := m0.blk.cell 1
  obtain ⟨Bn, cn, hvn, -⟩ := m0.n.rc.open_ ndc_len
  rw [hvn] at b1
  obtain ⟨gb, hgb⟩ : ∃ gb, gb = w.heap.size := ⟨_, rfl⟩
  rw [← hgb] at B0
  go_upto_if 22 with fail
  rw [← hgb]
  replace hgb := Lib.hid hgb
  go_cut [0, 3, 4] (fun s0 s3 s4 wx => s0 = .pointer (some ⟨g, 0, none⟩) ∧ s3 = .pointer (some ⟨gb, 0, none⟩) ∧ s4 = .bool false ∧ (∃ N A vn va, Mx wx T g D N A (sizeL L) vd vn va ∧ Hid (Sk N A ∧ Ls N L ∧ N.length = L.length + 1 ∧ A.length ≤ 12 * N.length)) ∧ Blk wx gb 23 (car c) ∧ Mod T w1 wx)
  case first =>
    rcases hNA with ⟨rfl, rfl, rfl⟩ | hs
    · have hg := grow_any m0 hTup.out cz (h := 12) (by omega) (by simp) (by simp)
      have hbz : ((([] : List Nd).length : Int) == 0) = true := rfl
      clear m b1 hC
      go_wp2_with fail
      refine hg.mono ?_
      rintro e w2 ⟨rfl, ⟨vn1, va1, m1⟩, x1⟩
      have B1 := B0.mod x1 (fun h => by have := hTS.out _ h; have := hgb.out; omega)
      go_wp2_with fail
      go_meet
      exact ⟨rfl, rfl, rfl, ⟨_, _, _, _, m1, Lib.hid ⟨Sk.begin cz, ⟨List.Pairwise.nil, fun k k0 kn => by simp at kn; omega, fun c hc => by cases hc⟩, rfl, by simp⟩⟩, B1, x1⟩
    · have hbz : ((N.length : Int) == 0) = false := by rw [beq_eq_false_iff_ne]; have := hs.2.2.1; omega
      clear m b1 hC
      go_wp2_with fail
      go_meet
      exact ⟨rfl, rfl, rfl, ⟨N, A, vn, va, m0, Lib.hid hs⟩, B0, Mod.refl _ _⟩
  case rest =>
    obtain ⟨rfl, rfl, rfl, ⟨N, A, vn, va, m1, hs⟩, B1, y1⟩ := hcut
    obtain ⟨wcz, hwcz⟩ : ∃ x, x = wc := ⟨_, rfl⟩
    subst hwcz
    clear m m0 hNA hvn b1 B0
    have hll : N.length ≤ 10001 := by have := hs.out.2.2.1; omega
    have hsz1 := y1.size
    have hpa := path_any m1 hs.out.1 c
    have d0 : wcz.cell? ⟨gb, 0, none⟩ = some (sv c.key) := B1.cell 0
    have d1 : wcz.cell? ⟨gb, 1, none⟩ = some (sv c.val) := B1.cell 1
    have d2 : wcz.cell? ⟨gb, 2, none⟩ = some (.bool c.del) := B1.cell 2
    have d3 : wcz.cell? ⟨gb, 3, none⟩ = some (.int .i64 c.seq) := B1.cell 3
    go_wp2_with fail
    refine hpa.mono ?_
    rintro e w2 ⟨⟨P, hP, rfl⟩, x2⟩
    have hP0 := Lib.hid (hP 0 (by omega))
    replace hP := Lib.hid hP
    clear hpa
    have Z5 : Blk (w2.alloc (.cells zero12 104)) w2.heap.size 104 zero12 := Blk.new _ _ _
    have hz5 : w2.heap.size < (w2.alloc (.cells zero12 104)).heap.size := by simp
    have x3 : Ext wcz ((w2.alloc (.cells zero12 104)).setRow w2.heap.size #[nv (P 0), nv (P 1), nv (P 2), nv (P 3), nv (P 4), nv (P 5), nv (P 6), nv (P 7), nv (P 8), nv (P 9), nv (P 10), nv (P 11)]) := (x2.alloc _).setRow (fun h => by have := x2.size; have : w2.heap.size < wcz.heap.size := h; omega) _
    have B5 := Z5.setRow #[nv (P 0), nv (P 1), nv (P 2), nv (P 3), nv (P 4), nv (P 5), nv (P 6), nv (P 7), nv (P 8), nv (P 9), nv (P 10), nv (P 11)]
    clear d0 d1 d2 d3
    go_upto_region 6 with ((with_reducible show wpList _ _ _ (⟨none, .store 104 _ _, _, _, _, _⟩ :: _) _ _); refine wpList_store_row rfl 104 (.tmp 5) (.tmp 28) rfl w2.heap.size #[nv (P 0), nv (P 1), nv (P 2), nv (P 3), nv (P 4), nv (P 5), nv (P 6), nv (P 7), nv (P 8), nv (P 9), nv (P 10), nv (P 11)] rfl rfl _ _ Z5 size12 rfl (by simp [Value.oneCell']) ?_)
    obtain ⟨w3, hw3⟩ : ∃ w3, w3 = (w2.alloc (.cells zero12 104)).setRow w2.heap.size #[nv (P 0), nv (P 1), nv (P 2), nv (P 3), nv (P 4), nv (P 5), nv (P 6), nv (P 7), nv (P 8), nv (P 9), nv (P 10), nv (P 11)] := ⟨_, rfl⟩
    rw [← hw3] at x3 B5 ⊢
    obtain ⟨g5, hg5⟩ : ∃ g5, g5 = w2.heap.size := ⟨_, rfl⟩
    rw [← hg5] at B5 ⊢
    have hgl : Hid (wcz.heap.size ≤ g5 ∧ g5 < w3.heap.size) := Lib.hid ⟨by rw [hg5]; exact x2.size, B5.lt⟩
    clear Z5 hz5 x2 hw3 hg5
    have B3 := B1.mod x3 (fun h => h)
    have hsz3 := x3.size
    obtain ⟨U, hU⟩ : ∃ U : Nat → Prop, U = fun k => (T k ∧ k < wcz.heap.size) ∨ w3.heap.size ≤ k := ⟨_, rfl⟩
    have m3 := (m1.mono (T := fun k => (T k ∧ k < wcz.heap.size) ∨ w3.heap.size ≤ k) (fun k hk hs => .inl ⟨hs, hk⟩)).ext x3
    rw [← hU] at m3
    have hUup : Hid (∀ k, w3.heap.size ≤ k → U k) := Lib.hid (by rw [hU]; exact fun k hk => .inr hk)
    have hUT : Hid (∀ k, U k → (T k ∧ k < wcz.heap.size) ∨ w3.heap.size ≤ k) := Lib.hid (by rw [hU]; exact fun k h => h)
    have hU5 : Hid (¬ U g5) := Lib.hid (fun h => by rcases hUT.out _ h with h | h <;> have := hgl.out <;> omega)
    have hUb : Hid (¬ U gb) := Lib.hid (fun h => by
      have h1 := B1.lt
      rcases hUT.out _ h with h | h
      · rcases hTS.out _ h.1 with h | h <;> have := hgb.out <;> omega
      · omega)
    clear hU m1
    have c0 : w3.cell? ⟨g5, 0, none⟩ = some (nv (P 0)) := B5.cell 0
    have hnx := next_any m3 hP0.out.lt (h := 0) (by have := hs.out.1.fit _ hP0.out.lt; have := hP0.out.hi; omega)
    go_wp2_with fail
    refine hnx.mono ?_
    rintro e w4 ⟨rfl, n4, rfl⟩
    have x4 : Ext wcz (w3.drewN n4) := x3.drewN n4
    replace m3 := m3.ext ((Mod.refl (fun _ => False) w3).drewN n4)
    replace B3 : Blk (w3.drewN n4) gb 23 (car c) := B3
    replace B5 : Blk (w3.drewN n4) g5 104 _ := B5
    have hsz4 : w3.heap.size = (w3.drewN n4).heap.size := rfl
    rw [hsz4] at hgl hUup hUT hsz3
    clear hnx c0 x3 hsz4
    obtain ⟨w4, hw4⟩ : ∃ w4, w4 = w3.drewN n4 := ⟨_, rfl⟩
    rw [← hw4] at x4 m3 B3 B5 hgl hUup hUT hsz3 ⊢
    clear hw4
    obtain ⟨d, hd⟩ : ∃ d, d = nxt N A (P 0) 0 := ⟨_, rfl⟩
    rw [← hd]
    have hdn : d < N.length := by
      rcases hs.out.1.link (P 0) 0 hP0.out.lt hP0.out.hi with ⟨h, _⟩ | ⟨_, h, _⟩
      · rw [← hd] at h; rw [h]; exact hs.out.1.head.1
      · rw [hd]; exact h
    obtain ⟨fb, hfb⟩ : ∃ fb, fb = (decide (d ≠ 0) && ((nd N d).c.key == c.key) && decide ((nd N d).c.seq = c.seq)) := ⟨_, rfl⟩
    have hfb1 : Hid (fb = true → hasC L c) := Lib.hid (fun h => by
      rw [hfb] at h
      simp only [Bool.and_eq_true, decide_eq_true_eq, beq_iff_eq] at h
      exact ⟨_, hs.out.2.1.2.1 d (by omega) hdn, h.1.2, h.2⟩)
    have hfb2 : Hid (fb = false → ¬ hasC L c) := Lib.hid (fun h => by
      rintro ⟨x, hx, h1, h2⟩
      obtain ⟨k, k0, kn, rfl⟩ := hs.out.2.1.2.2 x hx
      have := hP0.out.known hs.out.1 k0 kn h1 h2
      rw [← hd] at this
      subst this
      rw [hfb, h1, h2, decide_eq_true (by omega), decide_eq_true rfl] at h
      simp at h)
    replace hd := Lib.hid hd
    go_upto_region 7 with fail
    go_cut [0, 3, 4, 5, 6, 62] (fun s0 s3 s4 s5 s6 s62 wx => s0 = .pointer (some ⟨g, 0, none⟩) ∧ s3 = .pointer (some ⟨gb, 0, none⟩) ∧ s4 = .bool false ∧ s5 = .pointer (some ⟨g5, 0, none⟩) ∧ s62 = .bool fb ∧ Ext w4 wx)
    case first =>
      have b1 : w4.cell? ⟨g, 1, none⟩ = some vn := m3.blk.cell 1
      obtain ⟨Bn, cn, hv, -, -, -, h4⟩ := m3.n.rc.open_ ndc_len
      subst hv
      obtain ⟨ad, hA, -, c0, c1, c2, c3, -, -⟩ := Ns.at_ h4 hdn
      subst hA
      have e0 : w4.cell? ⟨gb, 0, none⟩ = some (sv c.key) := B3.cell 0
      have e3 : w4.cell? ⟨gb, 3, none⟩ = some (.int .i64 c.seq) := B3.cell 3
      have hi0 : (0 : Int) ≤ (d : Int) := by omega
      have hi1 : (d : Int) < (N.length : Int) := by omega
      generalize nd N d = x at *
      clear h4
      by_cases hd0 : d = 0
      · have hb0 : ((d : Int) != 0) = false := by rw [hd0]; rfl
        have hf : fb = false := by rw [hfb, hd0]; simp
        go_wp2_with fail
        go_quiet (fail)
        go_wp2_with fail
        go_meet
        exact ⟨rfl, rfl, rfl, rfl, by rw [hf], (Mod.refl _ _).drewN _⟩
      have hb0 : ((d : Int) != 0) = true := by rw [bne_iff_ne]; omega
      by_cases hk : x.c.key = c.key
      case neg =>
        have hb1 : (x.c.key == c.key) = false := by rw [beq_eq_false_iff_ne]; exact hk
        have hf : fb = false := by rw [hfb, hb1]; simp
        go_wp2_with fail
        go_quiet (fail)
        go_wp2_with fail
        go_meet
        exact ⟨rfl, rfl, rfl, rfl, by rw [hf], (Mod.refl _ _).drewN _⟩
      have hb1 : (x.c.key == c.key) = true := by rw [beq_iff_eq]; exact hk
      obtain ⟨bq, hbq⟩ : ∃ bq, bq = (x.c.seq == c.seq) := ⟨_, rfl⟩
      have hbq2 := hbq.symm
      have hf : fb = bq := by
        rw [hfb, hb1, hbq, decide_eq_true hd0]
        simp only [Bool.true_and]
        rw [Bool.eq_iff_iff, decide_eq_true_eq, beq_iff_eq]
      clear hbq hk
      go_wp2_with fail
      go_quiet (fail)
      go_wp2_with fail
      go_meet
      exact ⟨rfl, rfl, rfl, rfl, by rw [hf], (Mod.refl _ _).drewN _⟩
    case rest =>
      obtain ⟨rfl, rfl, rfl, rfl, rfl, x5⟩ := hcut
      obtain ⟨wcx, hwcx⟩ : ∃ x, x = wc := ⟨_, rfl⟩
      subst hwcx
      replace B3 := B3.mod x5 (fun h => h)
      replace B5 := B5.mod x5 (fun h => h)
      replace m3 := m3.ext x5
      replace x4 := ext_trans x4 x5
      have hsz5 := x5.size
      have hTU : ∀ k, k < w.heap.size → U k → S k := fun k hk h => by
        rcases hUT.out _ h with h | h
        · rcases hTS.out _ h.1 with h | h
          · exact h.1
          · omega
        · omega
      have hMd : Mod S w wcx := by
        have h1 : Mod S w wcz := xw.trans y1 (fun _ _ h => h.elim) (fun k hk h => by
          rcases hTS.out _ h with h | h
          · exact h.1
          · omega)
        exact h1.trans x4 (fun _ _ h => h) (fun _ _ h => h.elim)
      cases fb
      case true =>
        have hR1 : Hid (R = (false, L)) := Lib.hid (by rw [hR.out]; unfold putL; rw [if_neg (fun h => h.2 (hfb1.out rfl))])
        have hm9 := hMd.size
        go_wp2_with fail
        go_ret
        exact ⟨by rw [hR1.out]; rfl, by rw [hR1.out]; exact ⟨N, A, _, _, _, m3.mono (fun k _ h => by
          by_cases hk : k < w.heap.size
          · exact .inl (hTU k hk h)
          · exact .inr (by omega)), .inr hs.out, hC⟩, hMd⟩
      have hno := Lib.hid (hfb2.out rfl)
      have hR1 : Hid (R = (true, insC L c)) := Lib.hid (by rw [hR.out]; unfold putL; rw [if_pos ⟨hic, hno.out⟩])
      have hdr := draw_any m3 hD (by omega)
      clear hfb hfb1 hfb2 hR
      go_wp2_with fail
      refine hdr.mono ?_
      rintro e w6 ⟨⟨ht, ht1, ht12, rfl⟩, x6⟩
      replace B3 := B3.mod x6 (fun h => h)
      replace B5 := B5.mod x6 (fun h => h)
      replace m3 := m3.ext x6
      have hMd6 : Mod S w w6 := hMd.trans x6 (fun _ _ h => h) (fun _ _ h => h.elim)
      have hsz6 := x6.size
      clear hMd x4 x5 hdr
      have d0 : w6.cell? ⟨gb, 0, none⟩ = some (sv c.key) := B3.cell 0
      have d1 : w6.cell? ⟨gb, 1, none⟩ = some (sv c.val) := B3.cell 1
      have d2 : w6.cell? ⟨gb, 2, none⟩ = some (.bool c.del) := B3.cell 2
      have d3 : w6.cell? ⟨gb, 3, none⟩ = some (.int .i64 c.seq) := B3.cell 3
      have hg := grow_any m3 (fun k hk => hUup.out k (by omega)) c (h := ht) ht12 (by omega) (by have := hs.out.2.2.2; omega)
      go_wp2_with fail
      refine hg.mono ?_
      rintro e w7 ⟨rfl, ⟨vn1, va1, m7⟩, y7⟩
      replace B3 := B3.mod y7 hUb.out
      replace B5 := B5.mod y7 hU5.out
      have hMd7 : Mod S w w7 := hMd6.trans y7 (fun _ _ h => h) (fun k hk h => hTU k hk h)
      have hsz7 := y7.size
      obtain ⟨x, hx⟩ : ∃ x, x = (⟨c, A.length, ht⟩ : Nd) := ⟨_, rfl⟩
      rw [← hx] at m7
      have hxx : Hid (x.t = A.length ∧ x.h = ht ∧ x.c = c) := Lib.hid (by rw [hx]; exact ⟨rfl, rfl, rfl⟩)
      have hlA : Hid ((A ++ List.replicate ht 0).length = A.length + ht) := Lib.hid (by simp)
      have hw0 : Hid (Wk N A x P 0 (A ++ List.replicate ht 0)) := Lib.hid (by rw [← hxx.out.2.1]; exact Wk.begin hs.out.1)
      obtain ⟨ga, ca, hva1⟩ : ∃ ga ca, va1 = .slice (some ⟨ga, 0, none⟩) (A.length + ht) ca := by
        rcases m7.a.form with ⟨_, h⟩ | ⟨ga, ca, h, _⟩
        · have := congrArg List.length h
          simp at this
          omega
        · exact ⟨ga, ca, by simpa using h⟩
      have hgU : Hid (ga ≠ g5 ∧ ga ≠ gb) := Lib.hid (by
        have h1 : own va1 ga := by rw [hva1]; rfl
        exact ⟨fun h => hU5.out (h ▸ m7.sa _ h1), fun h => hUb.out (h ▸ m7.sa _ h1)⟩)
      replace hva1 := Lib.hid hva1
      clear hx d0 d1 d2 d3 hg m3 hMd6 y7
      go_wp2_with fail
      go_loopw [70] (fun i wr => ∃ (k : Nat), k ≤ ht ∧ i = .int .i64 (k : Nat) ∧ (∃ B, Mx wr U g D (N ++ [x]) B (sizeL L) vd vn1 va1 ∧ Hid (Wk N A x P k B)) ∧ Blk wr gb 23 (car c) ∧ Blk wr g5 104 #[nv (P 0), nv (P 1), nv (P 2), nv (P 3), nv (P 4), nv (P 5), nv (P 6), nv (P 7), nv (P 8), nv (P 9), nv (P 10), nv (P 11)] ∧ Mod S w wr) (fun i _ => ht - (intOf i).toNat)
      case atStart => exact ⟨0, Nat.zero_le _, rfl, ⟨_, m7, hw0⟩, B3, B5, hMd7⟩
      case round =>
        clear B3 B5 m7 hMd7 hw0
        obtain ⟨k, hk, rfl, ⟨B, mr, hW⟩, B3, B5, hMr⟩ := hrel
        by_cases hlt : k < ht
        case neg =>
          have hkh : k = ht := by omega
          have hb : decide ((k : Int) < (ht : Int)) = false := dfalse (by omega)
          subst hkh
          have e3 : wr.cell? ⟨g, 3, none⟩ = some (.int .i64 (sizeL L : Nat)) := mr.blk.cell 3
          have fr3 : wr.frozen? ⟨g, 3, none⟩ = false := mr.blk.frozen 3
          have d0 : wr.cell? ⟨gb, 0, none⟩ = some (sv c.key) := B3.cell 0
          have d1 : wr.cell? ⟨gb, 1, none⟩ = some (sv c.val) := B3.cell 1
          have d2 : wr.cell? ⟨gb, 2, none⟩ = some (.bool c.del) := B3.cell 2
          have d3 : wr.cell? ⟨gb, 3, none⟩ = some (.int .i64 c.seq) := B3.cell 3
          have hgg : Hid (gb ≠ g) := Lib.hid (fun h => hUb.out (h ▸ mr.sg))
          obtain ⟨sz, hszc⟩ : ∃ sz, sz = sizeC c := ⟨_, rfl⟩
          have hsC := fun wx => size_any (w := wx) c ⟨by have := hic.2.1; omega, by have := hic.2.2.1; omega⟩
          rw [show (c.key.length + c.val.length + 16) = sz from hszc.symm] at hsC
          have hs1b : sz ≤ 30000 := by
            rw [hszc]; unfold sizeC
            have := hic.2.1; have := hic.2.2.1; omega
          have hs2b : sizeL L ≤ 1000000000 := by have := sizeL_le hC; omega
          have hins : Hid (sizeL (insC L c) = sizeL L + sz) := Lib.hid (by rw [sizeL_ins, hszc])
          obtain ⟨sl, hsl⟩ : ∃ sl, sl = sizeL L := ⟨_, rfl⟩
          rw [← hsl] at e3 mr hs2b hins
          have q0 : Ext wr wr.drew := (Mod.refl _ wr).drew
          have hwr : Hid (IntKind.i64.wrap ((sl : Int) + (sz : Int)) = ((sizeL (insC L c) : Nat) : Int)) := Lib.hid (by rw [IntKind.wrap_i64, hins.out] <;> omega)
          have hdone : Hid (Sk (N ++ [x]) B) := Lib.hid ((hxx.out.2.1 ▸ hW.out : Wk N A x P x.h B).done hs.out.1 hxx.out.1 (by rw [hxx.out.2.1]; exact ht1) (by rw [hxx.out.2.1]; exact ht12) (fun h hh => by rw [hxx.out.2.2]; exact hP.out h (by rw [hxx.out.2.1] at hh; omega)) (fun d d0 dn hk => hno.out ⟨_, hs.out.2.1.2.1 d d0 dn, by rw [hxx.out.2.2] at hk; exact hk⟩))
          have hls : Hid (Ls (N ++ [x]) (insC L c)) := Lib.hid (by have := ls_ins (x := x) hs.out.2.1 hs.out.1.head.1 (by rw [hxx.out.2.2]; exact hno.out); rwa [hxx.out.2.2] at this)
          have hlen : Hid (B.length ≤ 12 * (N ++ [x]).length) := Lib.hid (by rw [hW.out.len, hxx.out.2.1, List.length_append, List.length_singleton]; have := hs.out.2.2.2; omega)
          have hfin : ∀ w8, Ext wr w8 → Hid (Mt (w8.setCell ⟨g, 3, none⟩ (.int .i64 (IntKind.i64.wrap ((sl : Int) + (sz : Int))))) (fun k => S k ∨ w.heap.size ≤ k) g D (insC L c) ∧ Mod S w (w8.setCell ⟨g, 3, none⟩ (.int .i64 (IntKind.i64.wrap ((sl : Int) + (sz : Int)))))) := by
            intro w8 x8
            obtain ⟨m9, y9⟩ := (mr.ext x8).size (n' := sizeL (insC L c))
            rw [hwr.out]
            refine Lib.hid ⟨⟨N ++ [x], B, vd, vn1, va1, m9.mono (fun i _ h => ?_), .inr ⟨hdone.out, hls.out, ?_, hlen.out⟩, fun d hd => ?_⟩, ?_⟩
            · by_cases hk : i < w.heap.size
              · exact .inl (hTU i hk h)
              · exact .inr (by omega)
            · rw [List.length_append, ins_length, List.length_singleton]; have := hs.out.2.2.1; omega
            · rcases mem_ins.1 hd with e | e
              · rw [e]; exact hic
              · exact hC d e
            · exact (hMr.trans x8 (fun _ _ h => h) (fun _ _ h => h.elim)).trans y9 (fun _ _ h => h) (fun k hk h => hTU k hk h)
          clear hszc hsl
          go_upto_region 17 with fail
          go_region_law (first
            | (go_simp; go_at_call 24; (with_reducible refine (hsC _).mono ?_); rintro e w8 ⟨rfl, x8⟩; have m8 := mr.ext (ext_trans q0 x8); have r3 : w8.cell? ⟨g, 3, none⟩ = some (.int .i64 (sl : Nat)) := m8.blk.cell 3; have fr8 : w8.frozen? ⟨g, 3, none⟩ = false := m8.blk.frozen 3))
          all_goals go_wp2_with fail
          all_goals go_ret
          all_goals exact ⟨by rw [hR1.out]; rfl, by rw [hR1.out]; exact (hfin w8 (ext_trans q0 x8)).out.1, (hfin w8 (ext_trans q0 x8)).out.2⟩
        have hb : decide ((k : Int) < (ht : Int)) = true := dtrue (by omega)
        have hpk := hP.out k (by omega)
        have hk12 : k < 12 := by omega
        have hBl := hW.out.len
        rw [hxx.out.2.1] at hBl
        obtain ⟨N1, hN1⟩ : ∃ N1, N1 = N ++ [x] := ⟨_, rfl⟩
        have hN1l : N1.length = N.length + 1 := by rw [hN1]; simp
        have hnn : nd N1 N.length = x := by rw [hN1]; exact nd_new x
        have hnp : nd N1 (P k) = nd N (P k) := by rw [hN1]; exact nd_app x hpk.lt
        obtain ⟨v1, hv1⟩ : ∃ v1, v1 = nxt N1 B (P k) k := ⟨_, rfl⟩
        obtain ⟨q1, hq1⟩ : ∃ q1, q1 = A.length + k := ⟨_, rfl⟩
        obtain ⟨q2, hq2⟩ : ∃ q2, q2 = (nd N (P k)).t + k := ⟨_, rfl⟩
        have hq2l : q2 < A.length := by rw [hq2]; have := hs.out.1.fit _ hpk.lt; have := hpk.hi; omega
        have hstep : Hid (Wk N A x P (k + 1) ((B.set q1 v1).set q2 N.length)) := Lib.hid (by
          have := hW.out.step hs.out.1 hxx.out.1 (by rw [hxx.out.2.1]; exact hlt) hpk.lt hpk.hi
          rw [← hN1, ← hv1, hxx.out.1, ← hq1, ← hq2] at this
          exact this)
        rw [← hN1] at mr
        have hsp1 := fun (wx : World) (hx : Ext wr wx) => spot_at hva1.out (mr.ext hx) (a := N.length) (h := k) (q := q1) (by omega) (by rw [hnn, hxx.out.1, hq1]) (by omega)
        have hnx1 := fun (wx : World) (hx : Ext wr wx) => next_any (mr.ext hx) (a := P k) (h := k) (by have := hpk.lt; omega) (by rw [hnp, ← hq2]; omega)
        simp only [← hv1] at hnx1
        have hsp2 := fun (wx : World) (mx : Mx wx U g D N1 (B.set q1 v1) (sizeL L) vd vn1 va1) => spot_at hva1.out mx (a := P k) (h := k) (q := q2) (by have := hpk.lt; omega) (by rw [hnp, hq2]) (by rw [List.length_set]; omega)
        have hsh := hva1.out
        have e1 : wr.cell? ⟨ga, q1, none⟩ = some (nv (B.getD q1 0)) := by
          have h1 := mr.a
          rw [hsh] at h1
          rw [h1.cellAt (j := q1) (by rw [List.length_map]; omega), List.getElem_map, List.getD_eq_getElem?_getD, List.getElem?_eq_getElem (by omega)]
          rfl
        have f1 : wr.frozen? ⟨ga, q1, none⟩ = false := by
          have h1 := mr.a
          rw [hsh] at h1
          exact h1.frozenAt q1
        have c5 : wr.cell? ⟨g5, k, none⟩ = some (nv (P k)) := (B5.cell k).trans (p12 P hk12)
        have hi0 : (0 : Int) ≤ (k : Int) := by omega
        have hi1 : (k : Int) < 12 := by omega
        have q0 : Ext wr wr.drew := (Mod.refl _ wr).drew
        replace hN1 := Lib.hid hN1
        replace hW := Lib.hid hBl
        clear hv1 hq1 hq2 hnn hnp hpk hBl
        have hdr : ∀ j, Ext wr (wr.drewN j) := fun j => (Mod.refl _ wr).drewN j
        have hmid : ∀ j, Hid (Mx ((wr.drewN j).setCell ⟨ga, q1, none⟩ (.int .i64 (v1 : Nat))) U g D N1 (B.set q1 v1) (sizeL L) vd vn1 va1 ∧ Mod U wr ((wr.drewN j).setCell ⟨ga, q1, none⟩ (.int .i64 (v1 : Nat))) ∧ Blk ((wr.drewN j).setCell ⟨ga, q1, none⟩ (.int .i64 (v1 : Nat))) gb 23 (car c) ∧ Blk ((wr.drewN j).setCell ⟨ga, q1, none⟩ (.int .i64 (v1 : Nat))) g5 104 #[nv (P 0), nv (P 1), nv (P 2), nv (P 3), nv (P 4), nv (P 5), nv (P 6), nv (P 7), nv (P 8), nv (P 9), nv (P 10), nv (P 11)]) := fun j => by
          obtain ⟨z1, z2⟩ := (mr.ext (hdr j)).storeA' (j := q1) (y := v1) hva1.out
          have z3 := (hdr j).trans z2 (H := U) (fun _ _ h => h.elim) (fun _ _ h => h)
          exact Lib.hid ⟨z1, z3, B3.mod z3 hUb.out, B5.mod z3 hU5.out⟩
        go_upto_region 14 with fail
        go_region_held3 (fun wx => wx.cell? ⟨g5, k, none⟩ = some (nv (P k))) (first | exact c5 | exact (Blk.cell (Blk.far (p := ⟨ga, q1, none⟩) B5 (Ne.symm hgU.out.1) _) k).trans (p12 P hk12)) (first
          | (go_at_call 78; (with_reducible refine (hsp1 _ q0).mono ?_); rintro e wa ⟨rfl, na, rfl⟩)
          | (go_at_call 76; (with_reducible refine (hnx1 _ (hdr _)).mono ?_); rintro e wb ⟨rfl, nb, rfl⟩))
        obtain ⟨wy, hwy⟩ : ∃ wy, wy = (wr.drewN (1 + na + nb)).setCell ⟨ga, q1, none⟩ (.int .i64 (v1 : Nat)) := ⟨_, rfl⟩
        have hmy := (hmid (1 + na + nb)).out
        rw [← hwy] at hmy ⊢
        clear hwy hmid e1 f1 c5
        obtain ⟨my, yy, Bb, B5y⟩ := hmy
        have e1 : wy.cell? ⟨ga, q2, none⟩ = some (nv ((B.set q1 v1).getD q2 0)) := by
          have h1 := my.a
          rw [hva1.out] at h1
          rw [h1.cellAt (j := q2) (by rw [List.length_map, List.length_set]; have := hW.out; omega), List.getElem_map, List.getD_eq_getElem?_getD, List.getElem?_eq_getElem (by rw [List.length_set]; have := hW.out; omega)]
          rfl
        have f1 : wy.frozen? ⟨ga, q2, none⟩ = false := by
          have h1 := my.a
          rw [hva1.out] at h1
          exact h1.frozenAt q2
        have c5 : wy.cell? ⟨g5, k, none⟩ = some (nv (P k)) := (B5y.cell k).trans (p12 P hk12)
        have hend : ∀ j, Hid (Mx ((wy.drewN j).setCell ⟨ga, q2, none⟩ (.int .i64 (N.length : Nat))) U g D N1 ((B.set q1 v1).set q2 N.length) (sizeL L) vd vn1 va1 ∧ Blk ((wy.drewN j).setCell ⟨ga, q2, none⟩ (.int .i64 (N.length : Nat))) gb 23 (car c) ∧ Blk ((wy.drewN j).setCell ⟨ga, q2, none⟩ (.int .i64 (N.length : Nat))) g5 104 #[nv (P 0), nv (P 1), nv (P 2), nv (P 3), nv (P 4), nv (P 5), nv (P 6), nv (P 7), nv (P 8), nv (P 9), nv (P 10), nv (P 11)] ∧ Mod S w ((wy.drewN j).setCell ⟨ga, q2, none⟩ (.int .i64 (N.length : Nat)))) := fun j => by
          obtain ⟨z1, z2⟩ := (my.ext ((Mod.refl _ wy).drewN j)).storeA' (j := q2) (y := N.length) hva1.out
          exact Lib.hid ⟨z1, Bb.mod (((Mod.refl (fun _ => False) wy).drewN j).trans z2 (fun _ _ h => h.elim) (fun _ _ h => h)) hUb.out, B5y.mod (((Mod.refl (fun _ => False) wy).drewN j).trans z2 (fun _ _ h => h.elim) (fun _ _ h => h)) hU5.out, (hMr.trans yy (fun _ _ h => h) (fun k hk h => hTU k hk h)).trans (((Mod.refl (fun _ => False) wy).drewN j).trans z2 (fun _ _ h => h.elim) (fun _ _ h => h)) (fun _ _ h => h) (fun k hk h => hTU k hk h)⟩
        have hspy := hsp2 wy my
        clear hsp1 hsp2 hnx1
        go_wp2_with fail
        refine hspy.mono ?_
        rintro e wz ⟨rfl, nz, rfl⟩
        go_wp2_with fail
        obtain ⟨z1, z2, z3, z4⟩ := (hend nz).out
        exact ⟨⟨k + 1, by omega, by go_num, ⟨_, hN1.out ▸ z1, hstep⟩, z2, z3, z4⟩, by simp [intOf] <;> omega⟩
end Go.Proofs.Ytlfooppmdgddkaa
