/- filter: the document's reader: value. -/
import Derived.Test.YtekocbphdckmkaaFrB
import Derived.Test.YtekocbphdckmkaaRegA
namespace Go.Proofs.Ytekocbphdckmkaa
open Go.RowKit
set_option maxRecDepth 100000

/-- Where the document's value has come. -/
structure VAt (w wr : World) (g : Nat) (s : List UInt8) (x : Nat) (v : Value) (P : List (List UInt8)) (o : List UInt8) (j : Nat) : Prop where
  ow : Own wr 9 v ((P ++ [o]).map sv)
  fr : Fresh w.heap.size v
  rd : R3 wr g s j x
  mod : Mod (fun b => b = g) w wr
  jl : j ≤ s.length
  pl : P.length ≤ j
  ol : o.length ≤ j
theorem VAt.ext {w wr wx : World} {g : Nat} {s : List UInt8} {x : Nat} {v : Value} {P : List (List UInt8)} {o : List UInt8} {j : Nat} (h : VAt w wr g s x v P o j) (e : Ext wr wx) : VAt w wx g s x v P o j :=
  ⟨h.ow.mod e (fun _ _ h => h), h.fr, h.rd.mod e (fun h => h), h.mod.then_ e (fun _ _ h => h.elim), h.jl, h.pl, h.ol⟩
theorem VAt.open_ {w wr : World} {g : Nat} {s : List UInt8} {x : Nat} {v : Value} {P : List (List UInt8)} {o : List UInt8} {j : Nat} (h : VAt w wr g s x v P o j) (hg : g < w.heap.size) :
    ∃ b c, v = .slice (some ⟨b, 0, none⟩) (P.length + 1) c ∧ wr.cell? ⟨b, P.length, none⟩ = some (sv o) ∧ wr.frozen? ⟨b, P.length, none⟩ = false ∧ b ≠ g ∧ w.heap.size ≤ b ∧ wr.heap.size ≠ b ∧
      ∀ (wx : World) (o' : List UInt8) (j' : Nat), Ext wr wx → j ≤ j' → j' ≤ s.length → o'.length ≤ j' → VAt w ((wx.setCell ⟨b, P.length, none⟩ (sv o')).setCell ⟨g, 1, none⟩ (.int .i64 (j' : Int))) g s x v P o' j' := by
  have hl : ((P ++ [o]).map sv).length = P.length + 1 := by simp
  rcases h.ow.form with ⟨-, h2⟩ | ⟨b, c, hv, -, -, hb⟩
  · simp at h2
  · rw [hl] at hv
    have ho := h.ow
    rw [hv] at ho
    have hfr : w.heap.size ≤ b := h.fr b (by rw [hv]; rfl)
    have hbg : b ≠ g := by omega
    have hc := ho.cellAt (j := P.length) (by rw [hl]; omega)
    have hc2 : wr.cell? ⟨b, P.length, none⟩ = some (sv o) := by rw [hc]; simp
    refine ⟨b, c, hv, hc2, ho.frozenAt _, hbg, hfr, by omega, fun wx o' j' e h1 h2 h3 => ?_⟩
    have K := h.ext e
    have y1 : Mod (fun k => k = b) wx (wx.setCell ⟨b, P.length, none⟩ (sv o')) := (Mod.refl (fun k => k = b) wx).setCell (p := ⟨b, P.length, none⟩) (fun _ => rfl) _
    have y2 := step_mod (w := wx.setCell ⟨b, P.length, none⟩ (sv o')) (g := g) (.int .i64 (j' : Int))
    have hset : ((P ++ [o]).map sv).set P.length (sv o') = (P ++ [o']).map sv := by
      rw [List.map_append, List.map_append, List.set_append]
      simp
    have o1 := K.ow
    rw [hv] at o1
    have o2 := o1.store (j := P.length) (sv o')
    rw [hset] at o2
    have hob : ∀ k, own (.slice (some ⟨b, 0, none⟩) (P.length + 1) c) k → k = b := fun k hk => by
      have : some b = some k := hk
      cases this; rfl
    refine ⟨by rw [hv]; exact o2.mod y2 (fun k hk h => by have := hob k hk; have : k = g := h; omega), h.fr, ((K.rd.mod y1 (fun h => by have : g = b := h; omega)).step j' _ rfl), ?_, h2, by have := h.pl; omega, h3⟩
    exact ((K.mod.trans y1 (fun _ _ h => h) (fun k hk h => by have : k = b := h; omega))).then_ y2 (fun _ _ h => h)
theorem VAt.star {w wr w2 : World} {g : Nat} {s : List UInt8} {x : Nat} {v v2 : Value} {P : List (List UInt8)} {o : List UInt8} {j : Nat} (h : VAt w wr g s x v P o j) (hg : g < w.heap.size) (hj : j < s.length)
    (g1 : Own w2 9 v2 ((P ++ [o]).map sv ++ [sv []])) (y : Mod (own v) wr w2) (n : Next wr.heap.size v v2) : R3 w2 g s j x ∧ VAt w (w2.setCell ⟨g, 1, none⟩ (.int .i64 ((j : Int) + 1))) g s x v2 (P ++ [o]) [] (j + 1) := by
  have hf2 : Fresh w.heap.size v2 := n.fresh h.fr h.mod.size
  have r2 := h.rd.mod y (fun hh => by have := h.fr _ hh; omega)
  have y2 := step_mod (w := w2) (g := g) (.int .i64 ((j : Int) + 1))
  refine ⟨r2, ⟨?_, hf2, r2.step (j + 1) _ (by omega), ?_, by omega, by have := h.pl; simp; omega, Nat.zero_le _⟩⟩
  · rw [List.map_append (l₁ := P ++ [o])]
    exact g1.mod y2 (fun k hk hh => by have := hf2 k hk; have : k = g := hh; omega)
  · exact (h.mod.trans y (fun _ _ h => h) (fun k hk hh => by have := h.fr k hh; omega)).then_ y2 (fun _ _ h => h)
/-- What is told of a value, the document's way. -/
def VOut3 (V : Option (List (List UInt8) × List UInt8)) (B : Nat) (w' : World) (g : Nat) (s : List UInt8) (x : Nat) (v : Value) (ok : Bool) : Prop :=
  ∃ j, j ≤ s.length ∧ R3 w' g s j x ∧ ((ok = false ∧ V = none ∧ v = .slice none 0 0) ∨ ∃ P o, ok = true ∧ Own w' 9 v ((P ++ [o]).map sv) ∧ Fresh B v ∧ P.length ≤ s.length ∧ ((V = some (P ++ [o], s.drop j)) ∨ (V = none ∧ j = s.length)))
theorem get_two {s : List UInt8} {j : Nat} (h : j + 2 < s.length) : ∃ a b, s.drop (j + 1) = a :: b :: s.drop (j + 3) ∧ (∀ (i : Nat) h', i = j + 1 → (⟨s.toArray⟩ : ByteArray)[i]'h' = a) ∧ ∀ (i : Nat) h', i = j + 2 → (⟨s.toArray⟩ : ByteArray)[i]'h' = b := by
  refine ⟨s[j + 1], s[j + 2], ?_, ?_, ?_⟩
  · rw [List.drop_eq_getElem_cons (show j + 1 < s.length by omega), List.drop_eq_getElem_cons (show j + 1 + 1 < s.length by omega)]
  · rintro i h' rfl; exact sv_get s (j + 1) (by omega) h'
  · rintro i h' rfl; exact sv_get s (j + 2) (by omega) h'
theorem half_sign (b : UInt8) : decide (halfI b < 0) = (digB b).isNone := by
  unfold halfI
  cases digB b with
  | none => rfl
  | some x => exact dfalse (by simp)
set_option maxHeartbeats 32000000 in
theorem rvalue_any {w : World} {g : Nat} {s : List UInt8} {k x : Nat} (h : R3 w g s k x) (hk : k ≤ s.length) (hl : s.length ≤ 1000000) :
    Calls Try.prog 47 #[.pointer (some ⟨g, 0, none⟩)] w fun e w' => ∃ v ok, e = .returned (.tuple #[v, .bool ok]) ∧ Mod (fun b => b = g) w w' ∧ VOut3 (valP (s.drop k) []) w.heap.size w' g s x v ok := by
  have hsz := sv_size s
  obtain ⟨V, hV⟩ : ∃ V, V = valP (s.drop k) [] := ⟨_, rfl⟩
  rw [← hV]
  replace hV := Lib.hid hV
  have hgB := h.lt
  obtain ⟨w1, hw1⟩ : ∃ y7 : World, y7 = w.alloc (.cells #[sv []] 9) := ⟨_, rfl⟩
  obtain ⟨p, hp⟩ : ∃ y8, y8 = w.heap.size := ⟨_, rfl⟩
  have x1 : Ext w w1 := by rw [hw1]; exact (Mod.refl _ w).alloc _
  have K1 : VAt w w1 g s x (.slice (some ⟨p, 0, none⟩) 1 1) [] [] k := by
    have ho := Own.lit w 9 [sv []] (by simp [maxLen])
    refine ⟨by rw [hw1, hp]; exact ho, fun b hb => ?_, h.mod x1 (fun h => h), x1.mono (fun _ _ h => h.elim), hk, Nat.zero_le _, Nat.zero_le _⟩
    have : some p = some b := hb
    cases this; omega
  replace hw1 := Lib.hid hw1
  replace hp := Lib.hid hp
  clear x1 h
  go_enter Try.func47, Try.ntmps47
  go_wp2_with fail
  rw [← hw1.out, ← hp.out]
  clear hw1 hp
  go_loopw [4] (fun v4 wr => ∃ (j : Nat) (P : List (List UInt8)) (o : List UInt8), VAt w wr g s x v4 P o j ∧ Hid (V = cat P (valP (s.drop j) o))) (fun _ wr => s.length - rdAt wr g)
  case atStart => exact ⟨k, [], [], K1, Lib.hid (by rw [cat_nil]; exact hV.out)⟩
  case round =>
    clear hV K1
    obtain ⟨j, P, o, K, hv⟩ := hrel
    have hat := K.rd.at_
    have hjl := K.jl
    have hpl := K.pl
    have hol := K.ol
    obtain ⟨c0, c1, c2⟩ := K.rd.c
    by_cases hlt : j < s.length
    rotate_left
    · have hb1 : decide ((j : Int) < (s.length : Int)) = false := dfalse (by omega)
      have hvv := Lib.hid (show V = none by rw [hv.out, drop_end hlt]; rfl)
      clear hv
      go_wp2_with fail
      go_quiet (fail)
      obtain ⟨w3, hw3⟩ : ∃ y7 : World, y7 = wr.drewN nq := ⟨_, rfl⟩
      rw [← hw3]
      have x3 : Ext wr w3 := by rw [hw3]; exact (Mod.refl _ wr).drewN nq
      clear hw3
      have K3 := K.ext x3
      clear K x3 c0 c1 c2
      have hje : j = s.length := by omega
      go_wp2_with fail
      go_ret2
      exact ⟨_, _, rfl, K3.mod, j, hjl, K3.rd, .inr ⟨P, o, rfl, K3.ow, K3.fr, by omega, .inr ⟨hvv.out, hje⟩⟩⟩
    have hb1 : decide ((j : Int) < (s.length : Int)) = true := dtrue (by omega)
    obtain ⟨c, hdr, hg⟩ := get_at hlt
    have hi0 : (0 : Int) ≤ (j : Int) := by omega
    have hi1 : (j : Int) < (s.length : Int) := by omega
    have hb256 := c.toNat_lt
    have hvd := hv.out
    rw [hdr] at hvd
    clear hv
    by_cases h41 : c = 41
    · have e41 : ((c.toNat : Int) != 41) = false := by rw [bne, show ((c.toNat : Int) == 41) = true from byte_eq c (n := 41) (by omega) h41]; rfl
      have hvv : V = some (P ++ [o], s.drop j) := by rw [hvd, h41, valP_end, hdr, h41]; rfl
      replace hvv := Lib.hid hvv
      clear hvd hdr h41
      go_wp2_with fail
      go_quiet (fail)
      obtain ⟨w3, hw3⟩ : ∃ y7 : World, y7 = wr.drewN nq := ⟨_, rfl⟩
      rw [← hw3]
      have x3 : Ext wr w3 := by rw [hw3]; exact (Mod.refl _ wr).drewN nq
      clear hw3
      have K3 := K.ext x3
      clear K x3 c0 c1 c2
      go_wp2_with fail
      go_ret2
      exact ⟨_, _, rfl, K3.mod, j, hjl, K3.rd, .inr ⟨P, o, rfl, K3.ow, K3.fr, by omega, .inl hvv.out⟩⟩
    have e41 : ((c.toNat : Int) != 41) = true := by rw [bne, show ((c.toNat : Int) == 41) = false from byte_ne c (n := 41) (by omega) h41]; rfl
    go_wp2_with fail
    go_quiet (fail)
    obtain ⟨w3, hw3⟩ : ∃ y7 : World, y7 = wr.drewN nq := ⟨_, rfl⟩
    rw [← hw3]
    have x3 : Ext wr w3 := by rw [hw3]; exact (Mod.refl _ wr).drewN nq
    clear hw3
    have K3 := K.ext x3
    clear K x3 c0 c1 c2
    obtain ⟨c0, c1, c2⟩ := K3.rd.c
    go_wp2_with fail
    go_quiet (fail)
    obtain ⟨w4, hw4⟩ : ∃ y7 : World, y7 = w3.drewN nq := ⟨_, rfl⟩
    rw [← hw4]
    have x4 : Ext w3 w4 := by rw [hw4]; exact (Mod.refl _ w3).drewN nq
    clear hw4
    have K4 := K3.ext x4
    clear K3 x4 c0 c1 c2
    obtain ⟨c0, c1, c2⟩ := K4.rd.c
    by_cases h40 : c = 40 ∨ c = 0
    · have hvv := Lib.hid (show V = none by rw [hvd, valP_bad h40]; rfl)
      have e0 : ((c.toNat : Int) == 40) = true ∨ (((c.toNat : Int) == 40) = false ∧ ((c.toNat : Int) == 0) = true) := by
        by_cases h5 : c = 40
        · exact .inl (byte_eq c (n := 40) (by omega) h5)
        · exact .inr ⟨byte_ne c (n := 40) (by omega) h5, byte_eq c (n := 0) (by omega) (h40.resolve_left h5)⟩
      clear hvd hdr h41 h40 e41
      rcases e0 with e0 | ⟨e0, e1⟩
      all_goals
        go_wp2_with fail
        go_ret2
        exact ⟨_, _, rfl, K4.mod, j, hjl, K4.rd, .inl ⟨rfl, hvv.out, rfl⟩⟩
    have h0 : c ≠ 0 := fun h => h40 (.inr h)
    have e40 : ((c.toNat : Int) == 40) = false := byte_ne c (n := 40) (by omega) (fun h => h40 (.inl h))
    have e0 : ((c.toNat : Int) == 0) = false := byte_ne c (n := 0) (by omega) h0
    by_cases h42 : c = 42
    · have e42 : ((c.toNat : Int) == 42) = true := byte_eq c (n := 42) (by omega) h42
      rw [h42, valP_star, cat_star] at hvd
      replace hvd := Lib.hid hvd
      obtain ⟨b, cp, rfl, -⟩ := K4.open_ hgB
      have hn1 := Lib.hid (show (((P ++ [o]).map sv).length + [sv []].length) * 16 ≤ 140737488355328 by simp; omega)
      clear hdr h41 h40 h42 h0 e41 hg
      go_wp2_with ((with_reducible show wpList _ _ _ (⟨some 73, _, _, _, _, _⟩ :: _) _ _); refine wp_app tyStr (K4.ow.alloc _) (Sl.one w4 9 (sv [])) (one_ok _ rfl) rfl (.tmp 71) (.tmp 72) rfl rfl rfl hn1.out ?_; intro v5 w5 g1 g2 g3; obtain ⟨r5, K5⟩ := K4.star hgB hlt g1 (mod_app g2) (g3.sooner (by simp)); obtain ⟨c0, c1, c2⟩ := r5.c; have z1 : w5.frozen? ⟨g, 1, none⟩ = false := Blk.frozen r5 1)
      refine ⟨⟨j + 1, P ++ [o], [], K5, hvd⟩, ?_⟩
      rw [K5.rd.at_, hat]; omega
    have e42 : ((c.toNat : Int) == 42) = false := byte_ne c (n := 42) (by omega) h42
    by_cases h92 : c = 92
    rotate_left
    · have e92 : ((c.toNat : Int) == 92) = false := byte_ne c (n := 92) (by omega) h92
      rw [valP_plain h41 h40 h42 h92] at hvd
      replace hvd := Lib.hid hvd
      obtain ⟨b, cp, rfl, d0, z0, hbg, hbw, hbh, hput⟩ := K4.open_ hgB
      clear hdr h41 h40 h42 h0 h92 e41 hg
      have hcat : (⟨o.toArray⟩ : ByteArray) ++ ⟨#[c]⟩ = ⟨(o ++ [c]).toArray⟩ := cat_data o [c]
      have hadd : ¬ 9223372036854775807 < o.length + 1 := by omega
      obtain ⟨n, hn⟩ : ∃ n, n = P.length + 1 := ⟨_, rfl⟩
      rw [← hn] at hput ⊢
      obtain ⟨m, hm⟩ : ∃ m, m = P.length := ⟨_, rfl⟩
      rw [← hm] at hput d0 z0 hn hpl
      have hm1 : (n : Int) - 1 = (m : Int) := by omega
      have hm2 : (0 : Int) ≤ (m : Int) := by omega
      have hm3 : (m : Int) < (n : Int) := by omega
      have hm4 : IntKind.i64.wrap (m : Int) = (m : Int) := wrap_small _ (by omega) (by omega)
      replace hm := Lib.hid hm
      replace hn := Lib.hid hn
      have hq : VAt w (((((w4.alloc (.cells #[bv c] 5)).drew).setCell ⟨b, m, none⟩ (sv (o ++ [c]))).setCell ⟨g, 1, none⟩ (.int .i64 ((j : Int) + 1)))) g s x (.slice (some ⟨b, 0, none⟩) n cp) P (o ++ [c]) (j + 1) := by
        have := hput (w4.alloc (.cells #[bv c] 5)).drew (o ++ [c]) (j + 1) ((Mod.refl _ w4).alloc _).drew (by omega) (by omega) (by simp; omega)
        rwa [Int.natCast_add] at this
      go_upto_region 4 with fail
      have e9 : (w4.alloc (.cells #[bv c] 5)).drew.cell? ⟨b, m, none⟩ = some (sv o) := ext_cell ((Mod.refl _ w4).alloc _).drew d0
      have e8 : (w4.alloc (.cells #[bv c] 5)).cell? ⟨b, m, none⟩ = some (sv o) := ext_cell ((Mod.refl _ w4).alloc _) d0
      have f8 : (w4.alloc (.cells #[bv c] 5)).frozen? ⟨b, m, none⟩ = false := (frozen?_alloc_cells w4 _ _ _).trans z0
      have f9 : (w4.alloc (.cells #[bv c] 5)).drew.frozen? ⟨b, m, none⟩ = false := f8
      have d9 : w4.drew.cell? ⟨b, m, none⟩ = some (sv o) := d0
      have kcv := run_conv (P := Try.prog) Try.underlying48 Try.underlying5 Try.underlying9 (show Bs (w4.alloc (.cells #[bv c] 5)).drew (fun k => k = w4.heap.size) (.slice (some ⟨w4.heap.size, 0, none⟩) 1 1) [c] from (Sl.one w4 5 (bv c)).ext ((Mod.refl _ _).drew))
      have kcw := run_conv (P := Try.prog) Try.underlying48 Try.underlying5 Try.underlying9 (show Bs ((w4.alloc (.cells #[bv c] 5)).drew.setCell ⟨b, m, none⟩ (sv (o ++ [c]))) (fun k => k = w4.heap.size) (.slice (some ⟨w4.heap.size, 0, none⟩) 1 1) [c] from ((Sl.one w4 5 (bv c)).ext ((Mod.refl _ _).drew)).mod ((Mod.refl (fun k => k = b) _).setCell (p := ⟨b, m, none⟩) (fun _ => rfl) _) (fun k _ h1 h2 => hbh (h1.symm.trans h2)))
      refine wp_region_held_drew (S := fun _ => True) (by kernel_rfl) trivial (fun hH => ?_)
      clear hH
      have hT : (fun _ : World => True) w4.drew := trivial
      (refine wpAnyH_take (i := 0) (oi := ⟨_, _, _, _, _, _⟩) (v := ?tv1) rfl (by kernel_rfl) (by kernel_rfl) (by kernel_rfl) (fun _ _ _ h => h) (Or.inl ⟨by kernel_rfl, ?hy1⟩) (by assumption) ?rs1; (case hy1 => (intro wx hSw; (try dsimp only at hSw); go_simp; try with_reducible rfl)); try simp only [Act.put, List.setIfInBounds_toArray, List.set_cons_zero, List.set_cons_succ]; try simp only [List.getElem_toArray, List.getElem_cons_succ, List.getElem_cons_zero])
      (refine wpAnyH_take (i := 1) (oi := ⟨_, _, _, _, _, _⟩) (v := ?tv2) rfl (by kernel_rfl) (by kernel_rfl) (by kernel_rfl) (fun _ _ _ h => h) (Or.inl ⟨by kernel_rfl, ?hy2⟩) (by assumption) ?rs2; (case hy2 => (intro wx hSw; (try dsimp only at hSw); go_simp; try with_reducible rfl)); try simp only [Act.put, List.setIfInBounds_toArray, List.set_cons_zero, List.set_cons_succ]; try simp only [List.getElem_toArray, List.getElem_cons_succ, List.getElem_cons_zero])
      (refine wpAnyH_take (i := 2) (oi := ⟨_, _, _, _, _, _⟩) (v := ?tv3) rfl (by kernel_rfl) (by kernel_rfl) (by kernel_rfl) (fun _ _ _ h => h) (Or.inl ⟨by kernel_rfl, ?hy3⟩) (by assumption) ?rs3; (case hy3 => (intro wx hSw; (try dsimp only at hSw); go_simp; try with_reducible rfl)); try simp only [Act.put, List.setIfInBounds_toArray, List.set_cons_zero, List.set_cons_succ]; try simp only [List.getElem_toArray, List.getElem_cons_succ, List.getElem_cons_zero])
      (refine wpAnyH_take (i := 3) (oi := ⟨_, _, _, _, _, _⟩) (v := ?tv4) rfl (by kernel_rfl) (by kernel_rfl) (by kernel_rfl) (fun _ _ _ h => h) (Or.inl ⟨by kernel_rfl, ?hy4⟩) (by assumption) ?rs4; (case hy4 => (intro wx hSw; (try dsimp only at hSw); go_simp; try with_reducible rfl)); try simp only [Act.put, List.setIfInBounds_toArray, List.set_cons_zero, List.set_cons_succ]; try simp only [List.getElem_toArray, List.getElem_cons_succ, List.getElem_cons_zero])
      (refine wpAnyH_take (i := 4) (oi := ⟨_, _, _, _, _, _⟩) (v := ?tv5) rfl (by kernel_rfl) (by kernel_rfl) (by kernel_rfl) (fun _ _ _ h => h) (Or.inl ⟨by kernel_rfl, ?hy5⟩) (by assumption) ?rs5; (case hy5 => (intro wx hSw; (try dsimp only at hSw); go_simp; try with_reducible rfl)); try simp only [Act.put, List.setIfInBounds_toArray, List.set_cons_zero, List.set_cons_succ]; try simp only [List.getElem_toArray, List.getElem_cons_succ, List.getElem_cons_zero])
      (refine wpAnyH_take (i := 5) (oi := ⟨_, _, _, _, _, _⟩) (v := ?tv6) rfl (by kernel_rfl) (by kernel_rfl) (by kernel_rfl) (fun _ _ _ h => h) (Or.inl ⟨by kernel_rfl, ?hy6⟩) (by assumption) ?rs6; (case hy6 => (intro wx hSw; (try dsimp only at hSw); go_simp; try with_reducible rfl)); try simp only [Act.put, List.setIfInBounds_toArray, List.set_cons_zero, List.set_cons_succ]; try simp only [List.getElem_toArray, List.getElem_cons_succ, List.getElem_cons_zero])
      (refine wpAnyH_take (i := 6) (oi := ⟨_, _, _, _, _, _⟩) (v := ?tv7) rfl (by kernel_rfl) (by kernel_rfl) (by kernel_rfl) (fun _ _ _ h => h) (Or.inl ⟨by kernel_rfl, ?hy7⟩) (by assumption) ?rs7; (case hy7 => (intro wx hSw; (try dsimp only at hSw); go_simp; try with_reducible rfl)); try simp only [Act.put, List.setIfInBounds_toArray, List.set_cons_zero, List.set_cons_succ]; try simp only [List.getElem_toArray, List.getElem_cons_succ, List.getElem_cons_zero])
      (refine wpAnyH_take (i := 7) (oi := ⟨_, _, _, _, _, _⟩) (v := ?tv8) rfl (by kernel_rfl) (by kernel_rfl) (by kernel_rfl) (fun _ _ _ h => h) (Or.inl ⟨by kernel_rfl, ?hy8⟩) (by assumption) ?rs8; (case hy8 => (intro wx hSw; (try dsimp only at hSw); go_simp; try with_reducible rfl)); try simp only [Act.put, List.setIfInBounds_toArray, List.set_cons_zero, List.set_cons_succ]; try simp only [List.getElem_toArray, List.getElem_cons_succ, List.getElem_cons_zero])
      (refine wpAnyH_take (i := 8) (oi := ⟨_, _, _, _, _, _⟩) (v := ?tv9) rfl (by kernel_rfl) (by kernel_rfl) (by kernel_rfl) (fun _ _ _ h => h) (Or.inl ⟨by kernel_rfl, ?hy9⟩) (by assumption) ?rs9; (case hy9 => (intro wx hSw; (try dsimp only at hSw); go_simp; try with_reducible rfl)); try simp only [Act.put, List.setIfInBounds_toArray, List.set_cons_zero, List.set_cons_succ]; try simp only [List.getElem_toArray, List.getElem_cons_succ, List.getElem_cons_zero])
      (refine wpAnyH_take (i := 10) (oi := ⟨_, _, _, _, _, _⟩) (v := ?tv10) rfl (by kernel_rfl) (by kernel_rfl) (by kernel_rfl) (fun _ _ _ h => h) (Or.inl ⟨by kernel_rfl, ?hy10⟩) (by assumption) ?rs10; (case hy10 => (intro wx hSw; (try dsimp only at hSw); go_simp; try with_reducible rfl)); try simp only [Act.put, List.setIfInBounds_toArray, List.set_cons_zero, List.set_cons_succ]; try simp only [List.getElem_toArray, List.getElem_cons_succ, List.getElem_cons_zero])
      refine wpAnyH_ready (rs := [9, 11]) (by kernel_rfl) (by simp) ?_
      refine AllReadyH.cons rfl (fun K hK => ?_) (AllReadyH.cons rfl (fun K hK => ?_) AllReadyH.nil)
      · go_simp
        (go_wp2_with fail; refine hK.out _ _ (trivial) (fun hH => ?_); clear hK K hH; try simp only [Act.put, List.setIfInBounds_toArray, List.set_cons_zero, List.set_cons_succ]; try simp only [List.getElem_toArray, List.getElem_cons_succ, List.getElem_cons_zero])
        (refine wpAnyH_ready (rs := [11]) (by kernel_rfl) (by simp) ?_; refine AllReadyH.cons rfl (fun K hK => ?_) AllReadyH.nil; go_simp)
        (go_wp2_with fail; refine hK.out _ _ (trivial) (fun hH => ?_); clear hK K hH; try simp only [Act.put, List.setIfInBounds_toArray, List.set_cons_zero, List.set_cons_succ]; try simp only [List.getElem_toArray, List.getElem_cons_succ, List.getElem_cons_zero])
        refine wpAnyH_mono (S' := (fun wz : World => (convert 48 9 (.slice (some ⟨w4.heap.size, 0, none⟩) 1 1)).run Try.prog wz = .ok (.string ⟨#[c]⟩) wz)) (fun _ _ => trivial) _ _ _ _ ?_
        (refine wpAnyH_take (i := 12) (oi := ⟨_, _, _, _, _, _⟩) (v := ?tv11) rfl (by kernel_rfl) (by kernel_rfl) (by kernel_rfl) (fun _ _ _ h => h) (Or.inl ⟨by kernel_rfl, ?hy11⟩) (by assumption) ?rs11; (case hy11 => (intro wx hSw; (try dsimp only at hSw); go_simp; try with_reducible rfl)); try simp only [Act.put, List.setIfInBounds_toArray, List.set_cons_zero, List.set_cons_succ]; try simp only [List.getElem_toArray, List.getElem_cons_succ, List.getElem_cons_zero])
        (refine wpAnyH_take (i := 13) (oi := ⟨_, _, _, _, _, _⟩) (v := ?tv12) rfl (by kernel_rfl) (by kernel_rfl) (by kernel_rfl) (fun _ _ _ h => h) (Or.inl ⟨by kernel_rfl, ?hy12⟩) (by assumption) ?rs12; (case hy12 => (intro wx hSw; (try dsimp only at hSw); go_simp; try with_reducible rfl)); try simp only [Act.put, List.setIfInBounds_toArray, List.set_cons_zero, List.set_cons_succ]; try simp only [List.getElem_toArray, List.getElem_cons_succ, List.getElem_cons_zero])
        (refine wpAnyH_take (i := 14) (oi := ⟨_, _, _, _, _, _⟩) (v := ?tv13) rfl (by kernel_rfl) (by kernel_rfl) (by kernel_rfl) (fun _ _ _ h => h) (Or.inl ⟨by kernel_rfl, ?hy13⟩) (by assumption) ?rs13; (case hy13 => (intro wx hSw; (try dsimp only at hSw); go_simp; try with_reducible rfl)); try simp only [Act.put, List.setIfInBounds_toArray, List.set_cons_zero, List.set_cons_succ]; try simp only [List.getElem_toArray, List.getElem_cons_succ, List.getElem_cons_zero])
        (refine wpAnyH_ready (rs := [15]) (by kernel_rfl) (by simp) ?_; refine AllReadyH.cons rfl (fun K hK => ?_) AllReadyH.nil; go_simp)
        (go_wp2_with fail; refine hK.out _ _ (kcw) (fun hH => ?_); clear hK K hH; try simp only [Act.put, List.setIfInBounds_toArray, List.set_cons_zero, List.set_cons_succ]; try simp only [List.getElem_toArray, List.getElem_cons_succ, List.getElem_cons_zero])
        refine wpAnyH_done (by kernel_rfl) ?_ _
        obtain ⟨w5, hw5⟩ : ∃ y7 : World, y7 = ((w4.alloc (.cells #[.int .u8 (c.toNat : Int)] 5)).setCell ⟨b, m, none⟩ (sv (o ++ [c]))).drew := ⟨_, rfl⟩
        have y5 : Mod (fun k => k = b) w4 w5 := by rw [hw5]; exact (((Mod.refl (fun k => k = b) w4).alloc _).setCell (p := ⟨b, m, none⟩) (fun _ => rfl) _).drew
        have q5 : VAt w (w5.setCell ⟨g, 1, none⟩ (.int .i64 ((j : Int) + 1))) g s x (.slice (some ⟨b, 0, none⟩) n cp) P (o ++ [c]) (j + 1) := by rw [hw5]; exact hq
        have r5 := K4.rd.mod y5 (fun h => hbg h.symm)
        rw [← hw5]
        clear hT kcw kcv e9 e8 f8 f9 d9 hput hq hw5 y5 c0 c1 c2 d0 z0 K4
        obtain ⟨c0, c1, c2⟩ := r5.c
        have z1 : w5.frozen? ⟨g, 1, none⟩ = false := Blk.frozen r5 1
        go_wp2_with fail
        refine ⟨⟨j + 1, P, _, q5, hvd⟩, ?_⟩
        rw [q5.rd.at_, hat]; omega
      · go_simp
        (go_wp2_with fail; refine hK.out _ _ (trivial) (fun hH => ?_); clear hK K hH; try simp only [Act.put, List.setIfInBounds_toArray, List.set_cons_zero, List.set_cons_succ]; try simp only [List.getElem_toArray, List.getElem_cons_succ, List.getElem_cons_zero])
        refine wpAnyH_mono (S' := (fun wz : World => (convert 48 9 (.slice (some ⟨w4.heap.size, 0, none⟩) 1 1)).run Try.prog wz = .ok (.string ⟨#[c]⟩) wz)) (fun _ _ => trivial) _ _ _ _ ?_
        (refine wpAnyH_take (i := 12) (oi := ⟨_, _, _, _, _, _⟩) (v := ?tv14) rfl (by kernel_rfl) (by kernel_rfl) (by kernel_rfl) (fun _ _ _ h => h) (Or.inl ⟨by kernel_rfl, ?hy14⟩) (by assumption) ?rs14; (case hy14 => (intro wx hSw; (try dsimp only at hSw); go_simp; try with_reducible rfl)); try simp only [Act.put, List.setIfInBounds_toArray, List.set_cons_zero, List.set_cons_succ]; try simp only [List.getElem_toArray, List.getElem_cons_succ, List.getElem_cons_zero])
        (refine wpAnyH_ready (rs := [9]) (by kernel_rfl) (by simp) ?_; refine AllReadyH.cons rfl (fun K hK => ?_) AllReadyH.nil; go_simp)
        (go_wp2_with fail; refine hK.out _ _ (kcv) (fun hH => ?_); clear hK K hH; try simp only [Act.put, List.setIfInBounds_toArray, List.set_cons_zero, List.set_cons_succ]; try simp only [List.getElem_toArray, List.getElem_cons_succ, List.getElem_cons_zero])
        (refine wpAnyH_take (i := 13) (oi := ⟨_, _, _, _, _, _⟩) (v := ?tv15) rfl (by kernel_rfl) (by kernel_rfl) (by kernel_rfl) (fun _ _ _ h => h) (Or.inl ⟨by kernel_rfl, ?hy15⟩) (by assumption) ?rs15; (case hy15 => (intro wx hSw; (try dsimp only at hSw); go_simp; try with_reducible rfl)); try simp only [Act.put, List.setIfInBounds_toArray, List.set_cons_zero, List.set_cons_succ]; try simp only [List.getElem_toArray, List.getElem_cons_succ, List.getElem_cons_zero])
        (refine wpAnyH_take (i := 14) (oi := ⟨_, _, _, _, _, _⟩) (v := ?tv16) rfl (by kernel_rfl) (by kernel_rfl) (by kernel_rfl) (fun _ _ _ h => h) (Or.inl ⟨by kernel_rfl, ?hy16⟩) (by assumption) ?rs16; (case hy16 => (intro wx hSw; (try dsimp only at hSw); go_simp; try with_reducible rfl)); try simp only [Act.put, List.setIfInBounds_toArray, List.set_cons_zero, List.set_cons_succ]; try simp only [List.getElem_toArray, List.getElem_cons_succ, List.getElem_cons_zero])
        (refine wpAnyH_ready (rs := [15]) (by kernel_rfl) (by simp) ?_; refine AllReadyH.cons rfl (fun K hK => ?_) AllReadyH.nil; go_simp)
        (go_wp2_with fail; refine hK.out _ _ (kcw) (fun hH => ?_); clear hK K hH; try simp only [Act.put, List.setIfInBounds_toArray, List.set_cons_zero, List.set_cons_succ]; try simp only [List.getElem_toArray, List.getElem_cons_succ, List.getElem_cons_zero])
        refine wpAnyH_done (by kernel_rfl) ?_ _
        obtain ⟨w5, hw5⟩ : ∃ y7 : World, y7 = ((w4.alloc (.cells #[.int .u8 (c.toNat : Int)] 5)).setCell ⟨b, m, none⟩ (sv (o ++ [c]))).drew := ⟨_, rfl⟩
        have y5 : Mod (fun k => k = b) w4 w5 := by rw [hw5]; exact (((Mod.refl (fun k => k = b) w4).alloc _).setCell (p := ⟨b, m, none⟩) (fun _ => rfl) _).drew
        have q5 : VAt w (w5.setCell ⟨g, 1, none⟩ (.int .i64 ((j : Int) + 1))) g s x (.slice (some ⟨b, 0, none⟩) n cp) P (o ++ [c]) (j + 1) := by rw [hw5]; exact hq
        have r5 := K4.rd.mod y5 (fun h => hbg h.symm)
        rw [← hw5]
        clear hT kcw kcv e9 e8 f8 f9 d9 hput hq hw5 y5 c0 c1 c2 d0 z0 K4
        obtain ⟨c0, c1, c2⟩ := r5.c
        have z1 : w5.frozen? ⟨g, 1, none⟩ = false := Blk.frozen r5 1
        go_wp2_with fail
        refine ⟨⟨j + 1, P, _, q5, hvd⟩, ?_⟩
        rw [q5.rd.at_, hat]; omega
    have e92 : ((c.toNat : Int) == 92) = true := byte_eq c (n := 92) (by omega) h92
    rw [h92] at hvd
    by_cases hl2 : j + 2 < s.length
    rotate_left
    · have hb2 : decide ((s.length : Int) ≤ (j : Int) + 2) = true := dtrue (by omega)
      have hvv := Lib.hid (show V = none by
        rw [hvd, valP_noesc (fun a b R' x y h _ _ => by
          have := congrArg List.length h
          simp only [List.length_drop, List.length_cons] at this
          omega)]; rfl)
      clear hvd hdr h41 h40 h42 h0 h92 e41 hg
      go_upto_region 12 with fail
      go_quiet (fail)
      obtain ⟨w5, hw5⟩ : ∃ y7 : World, y7 = w4.drewN nq := ⟨_, rfl⟩
      rw [← hw5]
      have x5 : Ext w4 w5 := by rw [hw5]; exact (Mod.refl _ w4).drewN nq
      clear hw5
      have K5 := K4.ext x5
      clear K4 c0 c1 c2 x5
      go_wp2_with fail
      go_ret2
      exact ⟨_, _, rfl, K5.mod, j, hjl, K5.rd, .inl ⟨rfl, hvv.out, rfl⟩⟩
    have hb2 : decide ((s.length : Int) ≤ (j : Int) + 2) = false := dfalse (by omega)
    obtain ⟨a, b2, hd2, hga, hgb⟩ := get_two hl2
    have hg1 := fun h' => hga (j + 1) h' rfl
    have hg2 := fun h' => hga ((j : Int) + 1).toNat h' (by omega)
    have hg3 := fun h' => hgb (j + 2) h' rfl
    have hg4 := fun h' => hgb ((j : Int) + 2).toNat h' (by omega)
    have hi2 : (0 : Int) ≤ (j : Int) + 1 := by omega
    have hi3 : (j : Int) + 1 < (s.length : Int) := by omega
    have hi4 : (0 : Int) ≤ (j : Int) + 2 := by omega
    have hi5 : (j : Int) + 2 < (s.length : Int) := by omega
    have hwa : IntKind.i64.wrap ((j : Int) + 1) = (j : Int) + 1 := wrap_small _ (by omega) (by omega)
    have hwb : IntKind.i64.wrap ((j : Int) + 2) = (j : Int) + 2 := wrap_small _ (by omega) (by omega)
    have hha := fun wx : World => half_any (w := wx) a
    have hhb := fun wx : World => half_any (w := wx) b2
    have hsa := half_sign a
    have hsb := half_sign b2
    rw [hd2] at hvd
    cases hda : digB a with
    | none =>
      rw [hda] at hsa
      have hvv := Lib.hid (show V = none by
        rw [hvd, valP_noesc (fun a' b' R' x y h h1 _ => by cases h; rw [hda] at h1; cases h1)]; rfl)
      generalize halfI a = HA at *
      replace hsa : decide (HA < 0) = true := hsa
      replace hha := Lib.hid hha
      clear hvd hdr h41 h40 h42 h0 h92 e41 hg hga hgb hd2 hhb hsb hda
      go_upto_region 12 with fail
      go_quiet ((go_at_call 57; (with_reducible refine Calls.quiet_of_same (hha.out _))))
      obtain ⟨w5, hw5⟩ : ∃ y7 : World, y7 = w4.drewN nq := ⟨_, rfl⟩
      rw [← hw5]
      have x5 : Ext w4 w5 := by rw [hw5]; exact (Mod.refl _ w4).drewN nq
      clear hw5
      have K5 := K4.ext x5
      clear K4 c0 c1 c2 x5
      go_wp2_with fail
      go_ret2
      exact ⟨_, _, rfl, K5.mod, j, hjl, K5.rd, .inl ⟨rfl, hvv.out, rfl⟩⟩
    | some X =>
      rw [hda] at hsa
      replace hsa : decide (halfI a < 0) = false := hsa
      cases hdb : digB b2 with
      | none =>
        rw [hdb] at hsb
        have hvv := Lib.hid (show V = none by
          rw [hvd, valP_noesc (fun a' b' R' x y h _ h1 => by cases h; rw [hdb] at h1; cases h1)]; rfl)
        generalize halfI a = HA at *
        generalize halfI b2 = HB at *
        replace hsb : decide (HB < 0) = true := hsb
        replace hha := Lib.hid hha
        replace hhb := Lib.hid hhb
        clear hvd hdr h41 h40 h42 h0 h92 e41 hg hga hgb hd2 hda hdb
        go_upto_region 12 with fail
        go_quiet (first | (go_at_call 57; (with_reducible refine Calls.quiet_of_same (hha.out _))) | (go_at_call 57; (with_reducible refine Calls.quiet_of_same (hhb.out _))))
        obtain ⟨w5, hw5⟩ : ∃ y7 : World, y7 = w4.drewN nq := ⟨_, rfl⟩
        rw [← hw5]
        have x5 : Ext w4 w5 := by rw [hw5]; exact (Mod.refl _ w4).drewN nq
        clear hw5
        have K5 := K4.ext x5
        clear K4 c0 c1 c2 x5
        go_wp2_with fail
        go_ret2
        exact ⟨_, _, rfl, K5.mod, j, hjl, K5.rd, .inl ⟨rfl, hvv.out, rfl⟩⟩
      | some Y =>
        rw [hdb] at hsb
        replace hsb : decide (halfI b2 < 0) = false := hsb
        have hX := digB_lt hda
        have hY := digB_lt hdb
        have hhi : halfI a = (X.toNat : Int) := by unfold halfI; rw [hda]
        have hlo : halfI b2 = (Y.toNat : Int) := by unfold halfI; rw [hdb]
        rw [valP_esc hda hdb] at hvd
        have hty := hilo_eq X Y hX hY
        generalize X <<< 4 ||| Y = t at *
        replace hvd := Lib.hid hvd
        rw [hhi] at hha hsa
        rw [hlo] at hhb hsb
        have hc1 : IntKind.i64.wrap (16 * (X.toNat : Int)) = 16 * (X.toNat : Int) := wrap_small _ (by omega) (by omega)
        have hc2 : IntKind.i64.wrap (16 * (X.toNat : Int) + (Y.toNat : Int)) = 16 * (X.toNat : Int) + (Y.toNat : Int) := wrap_small _ (by omega) (by omega)
        have ht8 := t.toNat_lt
        have hc3 : IntKind.u8.wrap (16 * (X.toNat : Int) + (Y.toNat : Int)) = (t.toNat : Int) := by
          rw [show 16 * (X.toNat : Int) + (Y.toNat : Int) = (t.toNat : Int) by omega]
          show (t.toNat : Int) % 256 = _
          omega
        have hc4 : (16 * (X.toNat : Int) + (Y.toNat : Int)) % 256 = (t.toNat : Int) := by omega
        generalize (X.toNat : Int) = HA at *
        generalize (Y.toNat : Int) = HB at *
        replace hha := Lib.hid hha
        replace hhb := Lib.hid hhb
        clear hdr h41 h40 h42 h0 h92 e41 hg hga hgb hd2 hda hdb hhi hlo hty hX hY
        go_upto_region 12 with fail
        go_quiet (first | (go_at_call 57; (with_reducible refine Calls.quiet_of_same (hha.out _))) | (go_at_call 57; (with_reducible refine Calls.quiet_of_same (hhb.out _))))
        obtain ⟨w5, hw5⟩ : ∃ y7 : World, y7 = w4.drewN nq := ⟨_, rfl⟩
        rw [← hw5]
        have x5 : Ext w4 w5 := by rw [hw5]; exact (Mod.refl _ w4).drewN nq
        clear hw5
        have K5 := K4.ext x5
        clear K4 c0 c1 c2 x5
        obtain ⟨c0, c1, c2⟩ := K5.rd.c
        go_wp2_with fail
        go_quiet (first | (go_at_call 57; (with_reducible refine Calls.quiet_of_same (hha.out _))) | (go_at_call 57; (with_reducible refine Calls.quiet_of_same (hhb.out _))))
        clear w4
        obtain ⟨w4, hw4⟩ : ∃ y7 : World, y7 = w5.drewN nq := ⟨_, rfl⟩
        rw [← hw4]
        have x4 : Ext w5 w4 := by rw [hw4]; exact (Mod.refl _ w5).drewN nq
        clear hw4
        have K4 := K5.ext x4
        clear K5 c0 c1 c2 x4
        obtain ⟨c0, c1, c2⟩ := K4.rd.c
        clear hg1 hg2 hg3 hg4 hi2 hi3 hi4 hi5 hwa hwb hha hhb hsa hsb hc1 hc2 hc3 hc4 hb2
        obtain ⟨b, cp, rfl, d0, z0, hbg, hbw, hbh, hput⟩ := K4.open_ hgB
        have hcat : (⟨o.toArray⟩ : ByteArray) ++ ⟨#[t]⟩ = ⟨(o ++ [t]).toArray⟩ := cat_data o [t]
        have hadd : ¬ 9223372036854775807 < o.length + 1 := by omega
        obtain ⟨n, hn⟩ : ∃ n, n = P.length + 1 := ⟨_, rfl⟩
        rw [← hn] at hput ⊢
        obtain ⟨m, hm⟩ : ∃ m, m = P.length := ⟨_, rfl⟩
        rw [← hm] at hput d0 z0 hn hpl
        have hm1 : (n : Int) - 1 = (m : Int) := by omega
        have hm2 : (0 : Int) ≤ (m : Int) := by omega
        have hm3 : (m : Int) < (n : Int) := by omega
        have hm4 : IntKind.i64.wrap (m : Int) = (m : Int) := wrap_small _ (by omega) (by omega)
        replace hm := Lib.hid hm
        replace hn := Lib.hid hn
        have hq : VAt w (((((w4.alloc (.cells #[bv t] 5)).drew).setCell ⟨b, m, none⟩ (sv (o ++ [t]))).setCell ⟨g, 1, none⟩ (.int .i64 ((j : Int) + 3)))) g s x (.slice (some ⟨b, 0, none⟩) n cp) P (o ++ [t]) (j + 3) := by
          have := hput (w4.alloc (.cells #[bv t] 5)).drew (o ++ [t]) (j + 3) ((Mod.refl _ w4).alloc _).drew (by omega) (by omega) (by simp; omega)
          rwa [Int.natCast_add] at this
        go_upto_region 15 with fail
        have e9 : (w4.alloc (.cells #[bv t] 5)).drew.cell? ⟨b, m, none⟩ = some (sv o) := ext_cell ((Mod.refl _ w4).alloc _).drew d0
        have e8 : (w4.alloc (.cells #[bv t] 5)).cell? ⟨b, m, none⟩ = some (sv o) := ext_cell ((Mod.refl _ w4).alloc _) d0
        have f8 : (w4.alloc (.cells #[bv t] 5)).frozen? ⟨b, m, none⟩ = false := (frozen?_alloc_cells w4 _ _ _).trans z0
        have f9 : (w4.alloc (.cells #[bv t] 5)).drew.frozen? ⟨b, m, none⟩ = false := f8
        have d9 : w4.drew.cell? ⟨b, m, none⟩ = some (sv o) := d0
        have kcv := run_conv (P := Try.prog) Try.underlying48 Try.underlying5 Try.underlying9 (show Bs (w4.alloc (.cells #[bv t] 5)).drew (fun k => k = w4.heap.size) (.slice (some ⟨w4.heap.size, 0, none⟩) 1 1) [t] from (Sl.one w4 5 (bv t)).ext ((Mod.refl _ _).drew))
        have kcw := run_conv (P := Try.prog) Try.underlying48 Try.underlying5 Try.underlying9 (show Bs ((w4.alloc (.cells #[bv t] 5)).drew.setCell ⟨b, m, none⟩ (sv (o ++ [t]))) (fun k => k = w4.heap.size) (.slice (some ⟨w4.heap.size, 0, none⟩) 1 1) [t] from ((Sl.one w4 5 (bv t)).ext ((Mod.refl _ _).drew)).mod ((Mod.refl (fun k => k = b) _).setCell (p := ⟨b, m, none⟩) (fun _ => rfl) _) (fun k _ h1 h2 => hbh (h1.symm.trans h2)))
        refine wp_region_held_drew (S := fun _ => True) (by kernel_rfl) trivial (fun hH => ?_)
        clear hH
        have hT : (fun _ : World => True) w4.drew := trivial
        (refine wpAnyH_take (i := 0) (oi := ⟨_, _, _, _, _, _⟩) (v := ?tv17) rfl (by kernel_rfl) (by kernel_rfl) (by kernel_rfl) (fun _ _ _ h => h) (Or.inl ⟨by kernel_rfl, ?hy17⟩) (by assumption) ?rs17; (case hy17 => (intro wx hSw; (try dsimp only at hSw); go_simp; try with_reducible rfl)); try simp only [Act.put, List.setIfInBounds_toArray, List.set_cons_zero, List.set_cons_succ]; try simp only [List.getElem_toArray, List.getElem_cons_succ, List.getElem_cons_zero])
        (refine wpAnyH_take (i := 1) (oi := ⟨_, _, _, _, _, _⟩) (v := ?tv18) rfl (by kernel_rfl) (by kernel_rfl) (by kernel_rfl) (fun _ _ _ h => h) (Or.inl ⟨by kernel_rfl, ?hy18⟩) (by assumption) ?rs18; (case hy18 => (intro wx hSw; (try dsimp only at hSw); go_simp; try with_reducible rfl)); try simp only [Act.put, List.setIfInBounds_toArray, List.set_cons_zero, List.set_cons_succ]; try simp only [List.getElem_toArray, List.getElem_cons_succ, List.getElem_cons_zero])
        (refine wpAnyH_take (i := 2) (oi := ⟨_, _, _, _, _, _⟩) (v := ?tv19) rfl (by kernel_rfl) (by kernel_rfl) (by kernel_rfl) (fun _ _ _ h => h) (Or.inl ⟨by kernel_rfl, ?hy19⟩) (by assumption) ?rs19; (case hy19 => (intro wx hSw; (try dsimp only at hSw); go_simp; try with_reducible rfl)); try simp only [Act.put, List.setIfInBounds_toArray, List.set_cons_zero, List.set_cons_succ]; try simp only [List.getElem_toArray, List.getElem_cons_succ, List.getElem_cons_zero])
        (refine wpAnyH_take (i := 3) (oi := ⟨_, _, _, _, _, _⟩) (v := ?tv20) rfl (by kernel_rfl) (by kernel_rfl) (by kernel_rfl) (fun _ _ _ h => h) (Or.inl ⟨by kernel_rfl, ?hy20⟩) (by assumption) ?rs20; (case hy20 => (intro wx hSw; (try dsimp only at hSw); go_simp; try with_reducible rfl)); try simp only [Act.put, List.setIfInBounds_toArray, List.set_cons_zero, List.set_cons_succ]; try simp only [List.getElem_toArray, List.getElem_cons_succ, List.getElem_cons_zero])
        (refine wpAnyH_take (i := 4) (oi := ⟨_, _, _, _, _, _⟩) (v := ?tv21) rfl (by kernel_rfl) (by kernel_rfl) (by kernel_rfl) (fun _ _ _ h => h) (Or.inl ⟨by kernel_rfl, ?hy21⟩) (by assumption) ?rs21; (case hy21 => (intro wx hSw; (try dsimp only at hSw); go_simp; try with_reducible rfl)); try simp only [Act.put, List.setIfInBounds_toArray, List.set_cons_zero, List.set_cons_succ]; try simp only [List.getElem_toArray, List.getElem_cons_succ, List.getElem_cons_zero])
        (refine wpAnyH_take (i := 5) (oi := ⟨_, _, _, _, _, _⟩) (v := ?tv22) rfl (by kernel_rfl) (by kernel_rfl) (by kernel_rfl) (fun _ _ _ h => h) (Or.inl ⟨by kernel_rfl, ?hy22⟩) (by assumption) ?rs22; (case hy22 => (intro wx hSw; (try dsimp only at hSw); go_simp; try with_reducible rfl)); try simp only [Act.put, List.setIfInBounds_toArray, List.set_cons_zero, List.set_cons_succ]; try simp only [List.getElem_toArray, List.getElem_cons_succ, List.getElem_cons_zero])
        (refine wpAnyH_take (i := 6) (oi := ⟨_, _, _, _, _, _⟩) (v := ?tv23) rfl (by kernel_rfl) (by kernel_rfl) (by kernel_rfl) (fun _ _ _ h => h) (Or.inl ⟨by kernel_rfl, ?hy23⟩) (by assumption) ?rs23; (case hy23 => (intro wx hSw; (try dsimp only at hSw); go_simp; try with_reducible rfl)); try simp only [Act.put, List.setIfInBounds_toArray, List.set_cons_zero, List.set_cons_succ]; try simp only [List.getElem_toArray, List.getElem_cons_succ, List.getElem_cons_zero])
        (refine wpAnyH_take (i := 7) (oi := ⟨_, _, _, _, _, _⟩) (v := ?tv24) rfl (by kernel_rfl) (by kernel_rfl) (by kernel_rfl) (fun _ _ _ h => h) (Or.inl ⟨by kernel_rfl, ?hy24⟩) (by assumption) ?rs24; (case hy24 => (intro wx hSw; (try dsimp only at hSw); go_simp; try with_reducible rfl)); try simp only [Act.put, List.setIfInBounds_toArray, List.set_cons_zero, List.set_cons_succ]; try simp only [List.getElem_toArray, List.getElem_cons_succ, List.getElem_cons_zero])
        (refine wpAnyH_take (i := 8) (oi := ⟨_, _, _, _, _, _⟩) (v := ?tv25) rfl (by kernel_rfl) (by kernel_rfl) (by kernel_rfl) (fun _ _ _ h => h) (Or.inl ⟨by kernel_rfl, ?hy25⟩) (by assumption) ?rs25; (case hy25 => (intro wx hSw; (try dsimp only at hSw); go_simp; try with_reducible rfl)); try simp only [Act.put, List.setIfInBounds_toArray, List.set_cons_zero, List.set_cons_succ]; try simp only [List.getElem_toArray, List.getElem_cons_succ, List.getElem_cons_zero])
        (refine wpAnyH_take (i := 10) (oi := ⟨_, _, _, _, _, _⟩) (v := ?tv26) rfl (by kernel_rfl) (by kernel_rfl) (by kernel_rfl) (fun _ _ _ h => h) (Or.inl ⟨by kernel_rfl, ?hy26⟩) (by assumption) ?rs26; (case hy26 => (intro wx hSw; (try dsimp only at hSw); go_simp; try with_reducible rfl)); try simp only [Act.put, List.setIfInBounds_toArray, List.set_cons_zero, List.set_cons_succ]; try simp only [List.getElem_toArray, List.getElem_cons_succ, List.getElem_cons_zero])
        refine wpAnyH_ready (rs := [9, 11]) (by kernel_rfl) (by simp) ?_
        refine AllReadyH.cons rfl (fun K hK => ?_) (AllReadyH.cons rfl (fun K hK => ?_) AllReadyH.nil)
        · go_simp
          (go_wp2_with fail; refine hK.out _ _ (trivial) (fun hH => ?_); clear hK K hH; try simp only [Act.put, List.setIfInBounds_toArray, List.set_cons_zero, List.set_cons_succ]; try simp only [List.getElem_toArray, List.getElem_cons_succ, List.getElem_cons_zero])
          (refine wpAnyH_ready (rs := [11]) (by kernel_rfl) (by simp) ?_; refine AllReadyH.cons rfl (fun K hK => ?_) AllReadyH.nil; go_simp)
          (go_wp2_with fail; refine hK.out _ _ (trivial) (fun hH => ?_); clear hK K hH; try simp only [Act.put, List.setIfInBounds_toArray, List.set_cons_zero, List.set_cons_succ]; try simp only [List.getElem_toArray, List.getElem_cons_succ, List.getElem_cons_zero])
          refine wpAnyH_mono (S' := (fun wz : World => (convert 48 9 (.slice (some ⟨w4.heap.size, 0, none⟩) 1 1)).run Try.prog wz = .ok (.string ⟨#[t]⟩) wz)) (fun _ _ => trivial) _ _ _ _ ?_
          (refine wpAnyH_take (i := 12) (oi := ⟨_, _, _, _, _, _⟩) (v := ?tv27) rfl (by kernel_rfl) (by kernel_rfl) (by kernel_rfl) (fun _ _ _ h => h) (Or.inl ⟨by kernel_rfl, ?hy27⟩) (by assumption) ?rs27; (case hy27 => (intro wx hSw; (try dsimp only at hSw); go_simp; try with_reducible rfl)); try simp only [Act.put, List.setIfInBounds_toArray, List.set_cons_zero, List.set_cons_succ]; try simp only [List.getElem_toArray, List.getElem_cons_succ, List.getElem_cons_zero])
          (refine wpAnyH_take (i := 13) (oi := ⟨_, _, _, _, _, _⟩) (v := ?tv28) rfl (by kernel_rfl) (by kernel_rfl) (by kernel_rfl) (fun _ _ _ h => h) (Or.inl ⟨by kernel_rfl, ?hy28⟩) (by assumption) ?rs28; (case hy28 => (intro wx hSw; (try dsimp only at hSw); go_simp; try with_reducible rfl)); try simp only [Act.put, List.setIfInBounds_toArray, List.set_cons_zero, List.set_cons_succ]; try simp only [List.getElem_toArray, List.getElem_cons_succ, List.getElem_cons_zero])
          (refine wpAnyH_take (i := 14) (oi := ⟨_, _, _, _, _, _⟩) (v := ?tv29) rfl (by kernel_rfl) (by kernel_rfl) (by kernel_rfl) (fun _ _ _ h => h) (Or.inl ⟨by kernel_rfl, ?hy29⟩) (by assumption) ?rs29; (case hy29 => (intro wx hSw; (try dsimp only at hSw); go_simp; try with_reducible rfl)); try simp only [Act.put, List.setIfInBounds_toArray, List.set_cons_zero, List.set_cons_succ]; try simp only [List.getElem_toArray, List.getElem_cons_succ, List.getElem_cons_zero])
          (refine wpAnyH_ready (rs := [15]) (by kernel_rfl) (by simp) ?_; refine AllReadyH.cons rfl (fun K hK => ?_) AllReadyH.nil; go_simp)
          (go_wp2_with fail; refine hK.out _ _ (kcw) (fun hH => ?_); clear hK K hH; try simp only [Act.put, List.setIfInBounds_toArray, List.set_cons_zero, List.set_cons_succ]; try simp only [List.getElem_toArray, List.getElem_cons_succ, List.getElem_cons_zero])
          refine wpAnyH_done (by kernel_rfl) ?_ _
          obtain ⟨w5, hw5⟩ : ∃ y7 : World, y7 = ((w4.alloc (.cells #[.int .u8 (t.toNat : Int)] 5)).setCell ⟨b, m, none⟩ (sv (o ++ [t]))).drew := ⟨_, rfl⟩
          have y5 : Mod (fun k => k = b) w4 w5 := by rw [hw5]; exact (((Mod.refl (fun k => k = b) w4).alloc _).setCell (p := ⟨b, m, none⟩) (fun _ => rfl) _).drew
          have q5 : VAt w (w5.setCell ⟨g, 1, none⟩ (.int .i64 ((j : Int) + 3))) g s x (.slice (some ⟨b, 0, none⟩) n cp) P (o ++ [t]) (j + 3) := by rw [hw5]; exact hq
          have r5 := K4.rd.mod y5 (fun h => hbg h.symm)
          rw [← hw5]
          clear hT kcw kcv e9 e8 f8 f9 d9 hput hq hw5 y5 c0 c1 c2 d0 z0 K4
          obtain ⟨c0, c1, c2⟩ := r5.c
          have z1 : w5.frozen? ⟨g, 1, none⟩ = false := Blk.frozen r5 1
          go_wp2_with fail
          refine ⟨⟨j + 3, P, _, q5, hvd⟩, ?_⟩
          rw [q5.rd.at_, hat]; omega
        · go_simp
          (go_wp2_with fail; refine hK.out _ _ (trivial) (fun hH => ?_); clear hK K hH; try simp only [Act.put, List.setIfInBounds_toArray, List.set_cons_zero, List.set_cons_succ]; try simp only [List.getElem_toArray, List.getElem_cons_succ, List.getElem_cons_zero])
          refine wpAnyH_mono (S' := (fun wz : World => (convert 48 9 (.slice (some ⟨w4.heap.size, 0, none⟩) 1 1)).run Try.prog wz = .ok (.string ⟨#[t]⟩) wz)) (fun _ _ => trivial) _ _ _ _ ?_
          (refine wpAnyH_take (i := 12) (oi := ⟨_, _, _, _, _, _⟩) (v := ?tv30) rfl (by kernel_rfl) (by kernel_rfl) (by kernel_rfl) (fun _ _ _ h => h) (Or.inl ⟨by kernel_rfl, ?hy30⟩) (by assumption) ?rs30; (case hy30 => (intro wx hSw; (try dsimp only at hSw); go_simp; try with_reducible rfl)); try simp only [Act.put, List.setIfInBounds_toArray, List.set_cons_zero, List.set_cons_succ]; try simp only [List.getElem_toArray, List.getElem_cons_succ, List.getElem_cons_zero])
          (refine wpAnyH_ready (rs := [9]) (by kernel_rfl) (by simp) ?_; refine AllReadyH.cons rfl (fun K hK => ?_) AllReadyH.nil; go_simp)
          (go_wp2_with fail; refine hK.out _ _ (kcv) (fun hH => ?_); clear hK K hH; try simp only [Act.put, List.setIfInBounds_toArray, List.set_cons_zero, List.set_cons_succ]; try simp only [List.getElem_toArray, List.getElem_cons_succ, List.getElem_cons_zero])
          (refine wpAnyH_take (i := 13) (oi := ⟨_, _, _, _, _, _⟩) (v := ?tv31) rfl (by kernel_rfl) (by kernel_rfl) (by kernel_rfl) (fun _ _ _ h => h) (Or.inl ⟨by kernel_rfl, ?hy31⟩) (by assumption) ?rs31; (case hy31 => (intro wx hSw; (try dsimp only at hSw); go_simp; try with_reducible rfl)); try simp only [Act.put, List.setIfInBounds_toArray, List.set_cons_zero, List.set_cons_succ]; try simp only [List.getElem_toArray, List.getElem_cons_succ, List.getElem_cons_zero])
          (refine wpAnyH_take (i := 14) (oi := ⟨_, _, _, _, _, _⟩) (v := ?tv32) rfl (by kernel_rfl) (by kernel_rfl) (by kernel_rfl) (fun _ _ _ h => h) (Or.inl ⟨by kernel_rfl, ?hy32⟩) (by assumption) ?rs32; (case hy32 => (intro wx hSw; (try dsimp only at hSw); go_simp; try with_reducible rfl)); try simp only [Act.put, List.setIfInBounds_toArray, List.set_cons_zero, List.set_cons_succ]; try simp only [List.getElem_toArray, List.getElem_cons_succ, List.getElem_cons_zero])
          (refine wpAnyH_ready (rs := [15]) (by kernel_rfl) (by simp) ?_; refine AllReadyH.cons rfl (fun K hK => ?_) AllReadyH.nil; go_simp)
          (go_wp2_with fail; refine hK.out _ _ (kcw) (fun hH => ?_); clear hK K hH; try simp only [Act.put, List.setIfInBounds_toArray, List.set_cons_zero, List.set_cons_succ]; try simp only [List.getElem_toArray, List.getElem_cons_succ, List.getElem_cons_zero])
          refine wpAnyH_done (by kernel_rfl) ?_ _
          obtain ⟨w5, hw5⟩ : ∃ y7 : World, y7 = ((w4.alloc (.cells #[.int .u8 (t.toNat : Int)] 5)).setCell ⟨b, m, none⟩ (sv (o ++ [t]))).drew := ⟨_, rfl⟩
          have y5 : Mod (fun k => k = b) w4 w5 := by rw [hw5]; exact (((Mod.refl (fun k => k = b) w4).alloc _).setCell (p := ⟨b, m, none⟩) (fun _ => rfl) _).drew
          have q5 : VAt w (w5.setCell ⟨g, 1, none⟩ (.int .i64 ((j : Int) + 3))) g s x (.slice (some ⟨b, 0, none⟩) n cp) P (o ++ [t]) (j + 3) := by rw [hw5]; exact hq
          have r5 := K4.rd.mod y5 (fun h => hbg h.symm)
          rw [← hw5]
          clear hT kcw kcv e9 e8 f8 f9 d9 hput hq hw5 y5 c0 c1 c2 d0 z0 K4
          obtain ⟨c0, c1, c2⟩ := r5.c
          have z1 : w5.frozen? ⟨g, 1, none⟩ = false := Blk.frozen r5 1
          go_wp2_with fail
          refine ⟨⟨j + 3, P, _, q5, hvd⟩, ?_⟩
          rw [q5.rd.at_, hat]; omega
end Go.Proofs.Ytekocbphdckmkaa
