/- dn: the reader: part. -/
import Derived.Test.YtacmbomnjedbeaaDnPD
import Derived.Laws.ResultCell
namespace Go.Proofs.Ytacmbomnjedbeaa
open Go.RowKit
set_option maxRecDepth 100000

def typP (b : UInt8) : Bool := decide (typN b.toNat)
/-- A type and a value, and what is left. -/
def partR (l : List UInt8) : Option ((List UInt8 × List UInt8) × List UInt8) :=
  if isTyp ((skipB l).takeWhile typP) then
    match skipB ((skipB l).dropWhile typP) with
    | 61 :: l3 => (valueB l3).bind fun p => if p.1 = [] then none else some (((skipB l).takeWhile typP, p.1), p.2)
    | _ => none
  else none
def Tk (s : List UInt8) (a j : Nat) : Prop := (s.drop a).takeWhile typP = (s.drop a).take (j - a) ++ (s.drop j).takeWhile typP ∧ (s.drop a).dropWhile typP = (s.drop j).dropWhile typP
theorem Tk.start (s : List UInt8) (a : Nat) : Tk s a a := ⟨by simp, rfl⟩
theorem Tk.next {s : List UInt8} {a j : Nat} (h : Tk s a j) (ha : a ≤ j) (hj : j < s.length) (hp : typP s[j] = true) : Tk s a (j + 1) := by
  obtain ⟨h1, h2⟩ := h
  have hd := List.drop_eq_getElem_cons hj
  refine ⟨?_, ?_⟩
  · rw [h1, hd, List.takeWhile_cons, if_pos hp]
    have ht : (s.drop a).take (j + 1 - a) = (s.drop a).take (j - a) ++ [s[j]] := by
      rw [show j + 1 - a = (j - a) + 1 by omega, List.take_succ_eq_append_getElem (by rw [List.length_drop]; omega), List.getElem_drop]
      congr 2
      congr 1
      omega
    rw [ht, List.append_assoc]
    rfl
  · rw [h2, hd, List.dropWhile_cons, if_pos hp]
theorem Tk.stop {s : List UInt8} {a j : Nat} (h : Tk s a j) (hp : ∀ h : j < s.length, typP s[j] = false) : (s.drop a).takeWhile typP = (s.drop a).take (j - a) ∧ (s.drop a).dropWhile typP = s.drop j := by
  obtain ⟨h1, h2⟩ := h
  by_cases hj : j < s.length
  · have hd := List.drop_eq_getElem_cons hj
    have := hp hj
    constructor
    · rw [h1, hd, List.takeWhile_cons, if_neg (by rw [this]; decide), List.append_nil]
    · rw [h2, hd, List.dropWhile_cons, if_neg (by rw [this]; decide)]
  · have hd : s.drop j = [] := List.drop_of_length_le (by omega)
    constructor
    · rw [h1, hd, List.takeWhile_nil, List.append_nil]
    · rw [h2, hd, List.dropWhile_nil]

theorem ext_sv (s : List UInt8) (a j : Nat) : (⟨s.toArray⟩ : ByteArray).extract a j = ⟨((s.drop a).take (j - a)).toArray⟩ := by
  apply ByteArray.ext
  simp [ByteArray.data_extract]
theorem results_cell_row2 {P : Program} {fn : Func} {p u : Tmp} {ty : TypeId} (h : fn.results = #[.cell p ty, .tmp u]) (tmps : Array Value) (w : World) (g : Nat) (t : TypeId) (cs : Array Value) (fr : Nat × Nat) (d : TypeDesc)
    (hp : tmps.getD p undef = .pointer (some ⟨g, 0, none⟩)) (hg : w.heap[g]? = some (.cells cs t fr))
    (hu : P.underlying ty = some d) (hd : (match d with | .struct _ | .array _ _ => true | _ => false) = true) (hi : (P.info? ty).map (·.size) = some cs.size) :
    (results fn tmps).run P w = .ok (.tuple #[.agg cs, tmps.getD u undef]) w := by
  have hp' : tmps[p]?.getD undef = .pointer (some ⟨g, 0, none⟩) := by simpa using hp
  rw [results_cell_tmp h]
  simp [hp', asAddr, Result.andThen, run_loadVar_row w g t ty cs fr d hg hu hd hi]

set_option maxHeartbeats 8000000 in
theorem rpart_any {w : World} {g : Nat} {s : List UInt8} {k : Nat} (h : Rd w g s k) (hk : k ≤ s.length) (hl : s.length ≤ 140737488351232) :
    Calls Try.prog 82 #[.pointer (some ⟨g, 0, none⟩)] w fun e w' => ∃ (t v : List UInt8) (ok : Bool) (j : Nat), e = .returned (.tuple #[.agg #[sv t, sv v], .bool ok]) ∧ k ≤ j ∧ j ≤ s.length ∧ t.length ≤ s.length ∧ v.length ≤ s.length ∧ partR (s.drop k) = (if ok then some ((t, v), s.drop j) else none) ∧ Rd w' g s j ∧ Mod (fun b => b = g) w w' := by
  have hsz := sv_size s
  have hgw : g < w.heap.size := Blk.lt h
  obtain ⟨P, hP⟩ : ∃ P, P = partR (s.drop k) := ⟨_, rfl⟩
  replace hP := Lib.hid hP
  go_enter Try.func82, Try.ntmps82
  go_wp2_with fail
  have B0 : Blk (w.alloc (.cells #[.string ⟨#[]⟩, .string ⟨#[]⟩] 46)) w.heap.size 46 #[.string ⟨#[]⟩, .string ⟨#[]⟩] := Blk.new w _ _
  have h0 := h.mod ((Mod.refl (fun _ => False) w).alloc (.cells #[.string ⟨#[]⟩, .string ⟨#[]⟩] 46)) (fun h => h)
  have m0 := (Mod.refl (fun b => b = g) w).alloc (.cells #[.string ⟨#[]⟩, .string ⟨#[]⟩] 46)
  refine (blanks_any h0 hk hl).mono ?_
  rintro e w1 ⟨rfl, a, ha, hal, hsa, r1, x1⟩
  have m1 := m0.then_ x1 (fun _ _ h => h)
  have B1 := B0.mod x1 (fun h => by omega)
  clear h0 m0 B0 x1
  replace hsa := Lib.hid hsa
  obtain ⟨c0, c1⟩ := r1.c
  go_wp2_with fail
  go_loopw [] (fun wr => ∃ j : Nat, a ≤ j ∧ j ≤ s.length ∧ Hid (Tk s a j) ∧ Rd wr g s j ∧ Mod (fun b => b = g) w wr ∧ Blk wr w.heap.size 46 #[.string ⟨#[]⟩, .string ⟨#[]⟩]) (fun wr => s.length - rdAt wr g)
  case atStart => exact ⟨a, Nat.le_refl _, hal, Lib.hid (Tk.start s a), r1, m1, B1⟩
  case round =>
    obtain ⟨j, hj, hjl, ht, r2, m2, B2⟩ := hrel
    clear c0 c1 r1 m1 B1
    obtain ⟨c0, c1⟩ := r2.c
    have z1 := Blk.frozen r2 1
    have hend := fun n => rend_any (r2.drewN n)
    have hat := r2.at_
    by_cases hlt : j < s.length
    case neg =>
      have hd : decide (j = s.length) = true := dtrue (by omega)
      rw [hd] at hend
      have hst := ht.out.stop (fun h => absurd h hlt)
      replace hst := Lib.hid hst
      clear ht hd
      go_wp2_with fail
      go_quiet ((go_at_call 83; refine Calls.quiet_of (hend _)))
      go_wp2_with fail
      obtain ⟨w3, hw3⟩ : ∃ x, x = wr.drewN nq := ⟨_, rfl⟩
      rw [← hw3]
      have xw3 : Ext wr w3 := by rw [hw3]; exact (Mod.refl _ wr).drewN nq
      clear hw3
      have r3 := r2.mod xw3 (fun h => h)
      have m3 : Mod (fun b => b = g) w w3 := m2.then_ xw3 (fun _ _ h => h.elim)
      have B3 := B2.mod xw3 (fun h => h)
      clear nq c0 c1 z1 xw3
      obtain ⟨c0, c1⟩ := r3.c
      have z1 := Blk.frozen r3 1
      clear hend hat r2 m2 B2
      have hj0 : (0 : Int) ≤ (a : Int) := by omega
      have hj1 : (a : Int) ≤ (j : Int) := by omega
      have hj2 : (j : Int) ≤ (s.length : Int) := by omega
      go_wp2_with fail
      go_quiet (fail)
      obtain ⟨w4, hw4⟩ : ∃ x, x = w3.drewN nq := ⟨_, rfl⟩
      rw [← hw4]
      have xw4 : Ext w3 w4 := by rw [hw4]; exact (Mod.refl _ w3).drewN nq
      clear hw4
      have r4 := r3.mod xw4 (fun h => h)
      have m4 : Mod (fun b => b = g) w w4 := m3.then_ xw4 (fun _ _ h => h.elim)
      have B4 := B3.mod xw4 (fun h => h)
      clear nq c0 c1 z1 xw4
      obtain ⟨c0, c1⟩ := r4.c
      have z1 := Blk.frozen r4 1
      clear r3 m3 B3
      go_wp2_with fail
      rw [ext_sv s a j, ← hst.out.1]
      obtain ⟨T, hT⟩ : ∃ T, T = (s.drop a).takeWhile typP := ⟨_, rfl⟩
      have hTl : T.length ≤ s.length := by rw [hT, hst.out.1, List.length_take, List.length_drop]; omega
      rw [← hT]
      refine (blanks_any r4 hjl hl).mono ?_
      rintro e w5 ⟨rfl, b, hb, hbl, hsb, r5, x5⟩
      have m5 := m4.then_ x5 (fun _ _ h => h)
      have B5 := B4.mod x5 (fun h => by omega)
      clear r4 m4 B4 x5 c0 c1 z1
      have hPT : P = if isTyp T then match s.drop b with | 61 :: l3 => (valueB l3).bind fun p => if p.1 = [] then none else some ((T, p.1), p.2) | _ => none else none := by
        rw [hP.out, partR, ← hsa.out, ← hT, hst.out.2, hsb]
      replace hPT := Lib.hid (hP.out.symm.trans hPT)
      clear hT hst hsb hP hsa
      go_wp2_with fail
      refine (type_any T (by omega)).mono ?_
      rintro e w6 ⟨rfl, hw6⟩
      rw [hw6]
      clear hw6
      by_cases hty : isTyp T
      case neg =>
        rw [dfalse hty]
        have hE : Hid (partR (s.drop k) = none) := Lib.hid (by rw [hPT.out, if_neg hty])
        clear hPT hty
        have d0 : _ = some _ := Blk.cell B5 0
        have d1 : _ = some _ := Blk.cell B5 1
        have f0 := Blk.frozen B5 0
        have f1 := Blk.frozen B5 1
        go_wp2_with fail
        have R5 := fun u v => ((B5).set_ 0 u).set_ 1 v
        have m9 := fun u v => ((m5).setCell (p := ⟨w.heap.size, 0, none⟩) (fun h => absurd h (Nat.lt_irrefl _)) u).setCell (p := ⟨w.heap.size, 1, none⟩) (fun h => absurd h (Nat.lt_irrefl _)) v
        have r9 := fun u v => ((r5).far (p := ⟨w.heap.size, 0, none⟩) (Nat.ne_of_lt hgw) u).far (p := ⟨w.heap.size, 1, none⟩) (Nat.ne_of_lt hgw) v
        refine bodyPost_ret (results_cell_row2 Try.results82 _ _ _ _ _ _ _ rfl (R5 _ _) Try.underlying46 rfl (by kernel_rfl)) rfl ?_
        exact ⟨[], [], false, b, rfl, by omega, hbl, Nat.zero_le _, Nat.zero_le _, hE.out, r9 _ _, m9 _ _⟩
      rw [dtrue hty]
      have hPT2 := hPT.out
      rw [if_pos hty] at hPT2
      clear hty hPT
      replace hPT2 := Lib.hid hPT2
      go_wp2_with fail
      refine (rdis_any r5 hbl 61).mono ?_
      rintro e w6 ⟨rfl, n6, hw6⟩
      have x6 : Ext w5 w6 := by rw [hw6]; exact (Mod.refl _ w5).drewN n6
      clear hw6
      have r6 := r5.mod x6 (fun h => h)
      have m6 : Mod (fun b => b = g) w w6 := m5.then_ x6 (fun _ _ h => h.elim)
      have B6 := B5.mod x6 (fun h => h)
      clear r5 m5 B5 x6
      by_cases heq : s[b]? = some 61
      case neg =>
        rw [dfalse heq]
        have hE : Hid (partR (s.drop k) = none) := Lib.hid (by
          rw [hPT2.out]
          split
          · rename_i l3 hl3
            exfalso
            apply heq
            rw [← List.head?_drop, hl3]
            rfl
          · rfl)
        clear hPT2 heq
        have d0 : _ = some _ := Blk.cell B6 0
        have d1 : _ = some _ := Blk.cell B6 1
        have f0 := Blk.frozen B6 0
        have f1 := Blk.frozen B6 1
        go_wp2_with fail
        have R5 := fun u v => ((B6).set_ 0 u).set_ 1 v
        have m9 := fun u v => ((m6).setCell (p := ⟨w.heap.size, 0, none⟩) (fun h => absurd h (Nat.lt_irrefl _)) u).setCell (p := ⟨w.heap.size, 1, none⟩) (fun h => absurd h (Nat.lt_irrefl _)) v
        have r9 := fun u v => ((r6).far (p := ⟨w.heap.size, 0, none⟩) (Nat.ne_of_lt hgw) u).far (p := ⟨w.heap.size, 1, none⟩) (Nat.ne_of_lt hgw) v
        refine bodyPost_ret (results_cell_row2 Try.results82 _ _ _ _ _ _ _ rfl (R5 _ _) Try.underlying46 rfl (by kernel_rfl)) rfl ?_
        exact ⟨[], [], false, b, rfl, by omega, hbl, Nat.zero_le _, Nat.zero_le _, hE.out, r9 _ _, m9 _ _⟩
      exfalso
      have hblt : b < s.length := (List.getElem?_eq_some_iff.1 heq).1
      omega
    obtain ⟨c, hck⟩ : ∃ c, c = s[j] := ⟨_, rfl⟩
    have hg : ∀ h', (⟨s.toArray⟩ : ByteArray)[j]'h' = c := fun h' => (sv_get s j hlt h').trans hck.symm
    have hd : decide (j = s.length) = false := dfalse (by omega)
    rw [hd] at hend
    clear hd
    have hi0 : (0 : Int) ≤ (j : Int) := by omega
    have hi1 : (j : Int) < (s.length : Int) := by omega
    have hin := fun (wx : World) => inType_any c.toNat (w := wx)
    by_cases htc : typN c.toNat
    case neg =>
      have hst := ht.out.stop (fun h => by unfold typP; exact dfalse (by rw [← hck]; exact htc))
      replace hst := Lib.hid hst
      rw [dfalse htc] at hin
      clear ht htc hck
      go_wp2_with fail
      go_quiet ((first | (go_at_call 83; refine Calls.quiet_of (hend _)) | (go_at_call 96; exact quiet_add_same (hin _)) | (go_at_call 96; exact Calls.quiet_of_same (hin _))))
      go_wp2_with fail
      obtain ⟨w3, hw3⟩ : ∃ x, x = wr.drewN nq := ⟨_, rfl⟩
      rw [← hw3]
      have xw3 : Ext wr w3 := by rw [hw3]; exact (Mod.refl _ wr).drewN nq
      clear hw3
      have r3 := r2.mod xw3 (fun h => h)
      have m3 : Mod (fun b => b = g) w w3 := m2.then_ xw3 (fun _ _ h => h.elim)
      have B3 := B2.mod xw3 (fun h => h)
      clear nq c0 c1 z1 xw3
      obtain ⟨c0, c1⟩ := r3.c
      have z1 := Blk.frozen r3 1
      clear hend hat r2 m2 B2
      have hj0 : (0 : Int) ≤ (a : Int) := by omega
      have hj1 : (a : Int) ≤ (j : Int) := by omega
      have hj2 : (j : Int) ≤ (s.length : Int) := by omega
      go_wp2_with fail
      go_quiet (fail)
      obtain ⟨w4, hw4⟩ : ∃ x, x = w3.drewN nq := ⟨_, rfl⟩
      rw [← hw4]
      have xw4 : Ext w3 w4 := by rw [hw4]; exact (Mod.refl _ w3).drewN nq
      clear hw4
      have r4 := r3.mod xw4 (fun h => h)
      have m4 : Mod (fun b => b = g) w w4 := m3.then_ xw4 (fun _ _ h => h.elim)
      have B4 := B3.mod xw4 (fun h => h)
      clear nq c0 c1 z1 xw4
      obtain ⟨c0, c1⟩ := r4.c
      have z1 := Blk.frozen r4 1
      clear r3 m3 B3
      go_wp2_with fail
      rw [ext_sv s a j, ← hst.out.1]
      obtain ⟨T, hT⟩ : ∃ T, T = (s.drop a).takeWhile typP := ⟨_, rfl⟩
      have hTl : T.length ≤ s.length := by rw [hT, hst.out.1, List.length_take, List.length_drop]; omega
      rw [← hT]
      refine (blanks_any r4 hjl hl).mono ?_
      rintro e w5 ⟨rfl, b, hb, hbl, hsb, r5, x5⟩
      have m5 := m4.then_ x5 (fun _ _ h => h)
      have B5 := B4.mod x5 (fun h => by omega)
      clear r4 m4 B4 x5 c0 c1 z1
      have hPT : P = if isTyp T then match s.drop b with | 61 :: l3 => (valueB l3).bind fun p => if p.1 = [] then none else some ((T, p.1), p.2) | _ => none else none := by
        rw [hP.out, partR, ← hsa.out, ← hT, hst.out.2, hsb]
      replace hPT := Lib.hid (hP.out.symm.trans hPT)
      clear hT hst hsb hP hsa
      go_wp2_with fail
      refine (type_any T (by omega)).mono ?_
      rintro e w6 ⟨rfl, hw6⟩
      rw [hw6]
      clear hw6
      by_cases hty : isTyp T
      case neg =>
        rw [dfalse hty]
        have hE : Hid (partR (s.drop k) = none) := Lib.hid (by rw [hPT.out, if_neg hty])
        clear hPT hty
        have d0 : _ = some _ := Blk.cell B5 0
        have d1 : _ = some _ := Blk.cell B5 1
        have f0 := Blk.frozen B5 0
        have f1 := Blk.frozen B5 1
        go_wp2_with fail
        have R5 := fun u v => ((B5).set_ 0 u).set_ 1 v
        have m9 := fun u v => ((m5).setCell (p := ⟨w.heap.size, 0, none⟩) (fun h => absurd h (Nat.lt_irrefl _)) u).setCell (p := ⟨w.heap.size, 1, none⟩) (fun h => absurd h (Nat.lt_irrefl _)) v
        have r9 := fun u v => ((r5).far (p := ⟨w.heap.size, 0, none⟩) (Nat.ne_of_lt hgw) u).far (p := ⟨w.heap.size, 1, none⟩) (Nat.ne_of_lt hgw) v
        refine bodyPost_ret (results_cell_row2 Try.results82 _ _ _ _ _ _ _ rfl (R5 _ _) Try.underlying46 rfl (by kernel_rfl)) rfl ?_
        exact ⟨[], [], false, b, rfl, by omega, hbl, Nat.zero_le _, Nat.zero_le _, hE.out, r9 _ _, m9 _ _⟩
      rw [dtrue hty]
      have hPT2 := hPT.out
      rw [if_pos hty] at hPT2
      clear hty hPT
      replace hPT2 := Lib.hid hPT2
      go_wp2_with fail
      refine (rdis_any r5 hbl 61).mono ?_
      rintro e w6 ⟨rfl, n6, hw6⟩
      have x6 : Ext w5 w6 := by rw [hw6]; exact (Mod.refl _ w5).drewN n6
      clear hw6
      have r6 := r5.mod x6 (fun h => h)
      have m6 : Mod (fun b => b = g) w w6 := m5.then_ x6 (fun _ _ h => h.elim)
      have B6 := B5.mod x6 (fun h => h)
      clear r5 m5 B5 x6
      by_cases heq : s[b]? = some 61
      case neg =>
        rw [dfalse heq]
        have hE : Hid (partR (s.drop k) = none) := Lib.hid (by
          rw [hPT2.out]
          split
          · rename_i l3 hl3
            exfalso
            apply heq
            rw [← List.head?_drop, hl3]
            rfl
          · rfl)
        clear hPT2 heq
        have d0 : _ = some _ := Blk.cell B6 0
        have d1 : _ = some _ := Blk.cell B6 1
        have f0 := Blk.frozen B6 0
        have f1 := Blk.frozen B6 1
        go_wp2_with fail
        have R5 := fun u v => ((B6).set_ 0 u).set_ 1 v
        have m9 := fun u v => ((m6).setCell (p := ⟨w.heap.size, 0, none⟩) (fun h => absurd h (Nat.lt_irrefl _)) u).setCell (p := ⟨w.heap.size, 1, none⟩) (fun h => absurd h (Nat.lt_irrefl _)) v
        have r9 := fun u v => ((r6).far (p := ⟨w.heap.size, 0, none⟩) (Nat.ne_of_lt hgw) u).far (p := ⟨w.heap.size, 1, none⟩) (Nat.ne_of_lt hgw) v
        refine bodyPost_ret (results_cell_row2 Try.results82 _ _ _ _ _ _ _ rfl (R5 _ _) Try.underlying46 rfl (by kernel_rfl)) rfl ?_
        exact ⟨[], [], false, b, rfl, by omega, hbl, Nat.zero_le _, Nat.zero_le _, hE.out, r9 _ _, m9 _ _⟩
      rw [dtrue heq]
      have hblt : b < s.length := (List.getElem?_eq_some_iff.1 heq).1
      have hdb : s.drop b = 61 :: s.drop (b + 1) := by
        rw [List.drop_eq_getElem_cons hblt, (List.getElem?_eq_some_iff.1 heq).2]
      have hPT := hPT2.out
      rw [hdb] at hPT
      replace hPT := Lib.hid hPT
      clear hPT2 hdb heq
      obtain ⟨c0, c1⟩ := r6.c
      have z1 := Blk.frozen r6 1
      have r7 := r6.step
      have m7 := m6.then_ (step_mod (w := w6) (g := g) (.int .i64 ((b : Int) + 1))) (fun _ _ h => h)
      have B7 := B6.mod (step_mod (w := w6) (g := g) (.int .i64 ((b : Int) + 1))) (fun h => by omega)
      go_wp2_with fail
      refine (rvalue_any r7 (by omega) hl).mono ?_
      rintro e w8 ⟨v, ok, j2, rfl, hj2, hj2l, hvl, hve, r8, x8⟩
      have m8 := m7.then_ x8 (fun _ _ h => h)
      have B8 := B7.mod x8 (fun h => by omega)
      have hPE := hPT.out
      rw [hve] at hPE
      clear hPT hve r6 m6 B6 r7 m7 B7 x8 c0 c1 z1
      have d0 : _ = some _ := Blk.cell B8 0
      have d1 : _ = some _ := Blk.cell B8 1
      have f0 := Blk.frozen B8 0
      have f1 := Blk.frozen B8 1
      cases ok
      · replace hPE := Lib.hid hPE
        go_wp2_with fail
        have R5 := fun u v => ((B8).set_ 0 u).set_ 1 v
        have m9 := fun u v => ((m8).setCell (p := ⟨w.heap.size, 0, none⟩) (fun h => absurd h (Nat.lt_irrefl _)) u).setCell (p := ⟨w.heap.size, 1, none⟩) (fun h => absurd h (Nat.lt_irrefl _)) v
        have r9 := fun u v => ((r8).far (p := ⟨w.heap.size, 0, none⟩) (Nat.ne_of_lt hgw) u).far (p := ⟨w.heap.size, 1, none⟩) (Nat.ne_of_lt hgw) v
        refine bodyPost_ret (results_cell_row2 Try.results82 _ _ _ _ _ _ _ rfl (R5 _ _) Try.underlying46 rfl (by kernel_rfl)) rfl ?_
        exact ⟨T, v, false, j2, rfl, by omega, hj2l, hTl, hvl, hPE.out, r9 _ _, m9 _ _⟩
      · by_cases hv0 : v = []
        · subst hv0
          replace hPE := Lib.hid hPE
          go_wp2_with fail
          have R5 := fun u v => ((B8).set_ 0 u).set_ 1 v
          have m9 := fun u v => ((m8).setCell (p := ⟨w.heap.size, 0, none⟩) (fun h => absurd h (Nat.lt_irrefl _)) u).setCell (p := ⟨w.heap.size, 1, none⟩) (fun h => absurd h (Nat.lt_irrefl _)) v
          have r9 := fun u v => ((r8).far (p := ⟨w.heap.size, 0, none⟩) (Nat.ne_of_lt hgw) u).far (p := ⟨w.heap.size, 1, none⟩) (Nat.ne_of_lt hgw) v
          refine bodyPost_ret (results_cell_row2 Try.results82 _ _ _ _ _ _ _ rfl (R5 _ _) Try.underlying46 rfl (by kernel_rfl)) rfl ?_
          exact ⟨T, [], false, j2, rfl, by omega, hj2l, hTl, Nat.zero_le _, by rw [hPE.out]; rfl, r9 _ _, m9 _ _⟩
        · replace hPE := Lib.hid hPE
          have hne : v.isEmpty = false := List.isEmpty_eq_false_iff.2 hv0
          go_wp2_with fail
          have R5 := fun u v => ((B8).set_ 0 u).set_ 1 v
          have m9 := fun u v => ((m8).setCell (p := ⟨w.heap.size, 0, none⟩) (fun h => absurd h (Nat.lt_irrefl _)) u).setCell (p := ⟨w.heap.size, 1, none⟩) (fun h => absurd h (Nat.lt_irrefl _)) v
          have r9 := fun u v => ((r8).far (p := ⟨w.heap.size, 0, none⟩) (Nat.ne_of_lt hgw) u).far (p := ⟨w.heap.size, 1, none⟩) (Nat.ne_of_lt hgw) v
          refine bodyPost_ret (results_cell_row2 Try.results82 _ _ _ _ _ _ _ rfl (R5 _ _) Try.underlying46 rfl (by kernel_rfl)) rfl ?_
          refine ⟨T, v, true, j2, rfl, by omega, hj2l, hTl, hvl, ?_, r9 _ _, m9 _ _⟩
          rw [hPE.out]
          show (if v = [] then none else some ((T, v), s.drop j2)) = some ((T, v), s.drop j2)
          rw [if_neg hv0]
    rw [dtrue htc] at hin
    have htn := ht.out.next hj hlt (by unfold typP; exact dtrue (by rw [← hck]; exact htc))
    replace htn := Lib.hid htn
    clear ht htc hck
    go_wp2_with fail
    go_quiet ((first | (go_at_call 83; refine Calls.quiet_of (hend _)) | (go_at_call 96; exact quiet_add_same (hin _)) | (go_at_call 96; exact Calls.quiet_of_same (hin _))))
    obtain ⟨w3, hw3⟩ : ∃ x, x = wr.drewN nq := ⟨_, rfl⟩
    rw [← hw3]
    have xw3 : Ext wr w3 := by rw [hw3]; exact (Mod.refl _ wr).drewN nq
    clear hw3
    have r3 := r2.mod xw3 (fun h => h)
    have m3 : Mod (fun b => b = g) w w3 := m2.then_ xw3 (fun _ _ h => h.elim)
    have B3 := B2.mod xw3 (fun h => h)
    clear nq c0 c1 z1 xw3
    obtain ⟨c0, c1⟩ := r3.c
    have z1 := Blk.frozen r3 1
    have r4 := r3.step
    have m4 := m3.then_ (step_mod (w := w3) (g := g) (.int .i64 ((j : Int) + 1))) (fun _ _ h => h)
    have B4 := B3.mod (step_mod (w := w3) (g := g) (.int .i64 ((j : Int) + 1))) (fun h => by omega)
    clear hend
    go_wp2_with fail
    refine ⟨⟨j + 1, by omega, by omega, htn, r4, m4, B4⟩, ?_⟩
    rw [r4.at_, hat]; omega
end Go.Proofs.Ytacmbomnjedbeaa
