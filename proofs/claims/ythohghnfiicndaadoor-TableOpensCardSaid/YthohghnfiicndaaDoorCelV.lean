/- block: cells taken from bytes, as the document has it. -/
import Derived.Test.YthohghnfiicndaaDoorCelR
import Derived.Test.YthohghnfiicndaaDoorCelH
import Derived.Test.YthohghnfiicndaaDoorOctU
import Derived.Deep.DeepCutAuto
namespace Go.Proofs.YthohghnfiicndaaDoor
open Go.RowKit
set_option maxRecDepth 100000

/-- As decF, but whether a cell may be is asked in the end alone. -/
def rdecF : Nat → List UInt8 → List UInt8 → List Ce → Option (List Ce)
  | 0, _, _, _ => none
  | f + 1, ahead, l, acc => if l = [] then some acc else match takeC ahead (some l) with
    | (c, some l') => rdecF f c.key l' (acc ++ [c])
    | (_, none) => none
theorem rdecF_mem : ∀ (f : Nat) (ahead l : List UInt8) (acc L : List Ce), rdecF f ahead l acc = some L → ∀ c ∈ acc, c ∈ L
  | 0, _, _, _, _, h => by cases h
  | f + 1, ahead, l, acc, L, h => by
    unfold rdecF at h
    by_cases hl : l = []
    · rw [if_pos hl] at h
      cases h
      exact fun c hc => hc
    · rw [if_neg hl] at h
      rcases hx : takeC ahead (some l) with ⟨c0, st⟩
      rw [hx] at h
      cases st with
      | none => cases h
      | some l' =>
        intro c hc
        exact rdecF_mem f c0.key l' (acc ++ [c0]) L h c (List.mem_append.2 (.inl hc))
theorem riseN_bad {L : List Ce} {c : Ce} (hc : c ∈ L) (hn : ¬ isC c) : riseN L ≠ 0 := fun h => hn ((riseN_zero h).1 c hc)
theorem outD_same (b : List UInt8) : ∀ (f : Nat) (ahead l : List UInt8) (acc : List Ce), outD b (rdecF f ahead l acc) = outD b (decF f ahead l acc)
  | 0, _, _, _ => rfl
  | f + 1, ahead, l, acc => by
    unfold rdecF decF
    by_cases hl : l = []
    · rw [if_pos hl, if_pos hl]
    · rw [if_neg hl, if_neg hl]
      rcases hx : takeC ahead (some l) with ⟨c0, st⟩
      cases st with
      | none => rfl
      | some l' =>
        simp only
        by_cases hc : isC c0
        · rw [if_pos hc]
          exact outD_same b f c0.key l' (acc ++ [c0])
        · rw [if_neg hc]
          cases hr : rdecF f c0.key l' (acc ++ [c0]) with
          | none => rfl
          | some L =>
            have hm := rdecF_mem f c0.key l' (acc ++ [c0]) L hr c0 (List.mem_append.2 (.inr (List.mem_singleton.2 rfl)))
            show (if riseN L = 0 ∧ encB L = b then (L, 0) else ([], 3)) = ([], 3)
            rw [if_neg (fun h => riseN_bad hm hc h.1)]
theorem rdecB (b : List UInt8) : outD b (rdecF (b.length + 1) [] b []) = decB b := outD_same b _ _ _ _
theorem rdecF_step {f : Nat} {ahead l l' : List UInt8} {acc : List Ce} {c : Ce} (hl : l ≠ []) (h : takeC ahead (some l) = (c, some l')) : rdecF (f + 1) ahead l acc = rdecF f c.key l' (acc ++ [c]) := by
  show (if l = [] then some acc else match takeC ahead (some l) with
    | (c, some l') => rdecF f c.key l' (acc ++ [c])
    | (_, none) => none) = _
  rw [if_neg hl, h]
theorem rdecF_none {f : Nat} {ahead l : List UInt8} {acc : List Ce} {c : Ce} (hl : l ≠ []) (h : takeC ahead (some l) = (c, none)) : rdecF (f + 1) ahead l acc = none := by
  show (if l = [] then some acc else match takeC ahead (some l) with
    | (c, some l') => rdecF f c.key l' (acc ++ [c])
    | (_, none) => none) = _
  rw [if_neg hl, h]
theorem takeC_far {a : List UInt8} {st : Option (List UInt8)} (h : a.length < (takeN st).1) : takeC a st = (⟨[], [], false, 0⟩, none) := by
  unfold takeC
  rw [if_pos h]
/-- The parts, read one by one. -/
theorem takeC_parts {a : List UInt8} {s0 s1 s2 s3 s4 : Option (List UInt8)} {n q d : Nat} {r : List UInt8} (e1 : takeN s0 = (n, s1)) (e2 : takeB s1 = (r, s2)) (e3 : takeN s2 = (q, s3)) (e4 : takeN s3 = (d, s4)) :
    takeC a s0 = if a.length < n then (⟨[], [], false, 0⟩, none) else if d = 1 then (⟨a.take n ++ r, [], true, (q : Nat)⟩, s4) else if 1 < d then (⟨a.take n ++ r, [], false, (q : Nat)⟩, none) else (⟨a.take n ++ r, (takeB s4).1, false, (q : Nat)⟩, (takeB s4).2) := by
  unfold takeC
  rw [e1]
  simp only
  rw [e2]
  simp only
  rw [e3]
  simp only
  rw [e4]
end Go.Proofs.YthohghnfiicndaaDoor
namespace Go.Proofs.YthohghnfiicndaaDoor
open Go.RowKit
set_option maxRecDepth 100000

theorem results_cell_row2 {P : Program} {fn : Func} {p u : Tmp} {ty : TypeId} (h : fn.results = #[.cell p ty, .tmp u]) (tmps : Array Value) (w : World) (g : Nat) (t : TypeId) (cs : Array Value) (fr : Nat × Nat) (d : TypeDesc)
    (hp : tmps.getD p undef = .pointer (some ⟨g, 0, none⟩)) (hg : w.heap[g]? = some (.cells cs t fr))
    (hu : P.underlying ty = some d) (hd : (match d with | .struct _ | .array _ _ => true | _ => false) = true) (hi : (P.info? ty).map (·.size) = some cs.size) :
    (results fn tmps).run P w = .ok (.tuple #[.agg cs, tmps.getD u undef]) w := by
  have hp' : tmps[p]?.getD undef = .pointer (some ⟨g, 0, none⟩) := by simpa using hp
  rw [results_cell_tmp h]
  simp [hp', asAddr, Result.andThen, run_loadVar_row w g t ty cs fr d hg hu hd hi]
set_option maxHeartbeats 16000000 in
theorem rfirst_any {w : World} {S : Nat → Prop} {y : Value} {L : List Ce} {key : List UInt8} {seq : Int} (h : Cs w S y L) :
    Calls Tryd.prog 17 #[y, sv key, .int .i64 seq] w fun e w' => e = .returned (.tuple #[.agg (car (outS (firstC L key seq)).1), .bool (outS (firstC L key seq)).2]) ∧ Ext w w' := by
  obtain ⟨A, c, rfl, h1, h2, h3, h4⟩ := h.open_ cel_len
  clear h
  obtain ⟨R, hR1⟩ : ∃ R, R = outS (firstC L key seq) := ⟨_, rfl⟩
  rw [← hR1]
  replace hR1 := Lib.hid hR1
  have B1 : Blk (w.alloc (.cells #[sv [], sv [], .bool false, .int .i64 0] 37)) w.heap.size 37 #[sv [], sv [], .bool false, .int .i64 0] := Blk.new w _ _
  have x1 : Ext w (w.alloc (.cells #[sv [], sv [], .bool false, .int .i64 0] 37)) := (Mod.refl _ w).alloc _
  go_enter Tryd.func17, Tryd.ntmps17
  go_wp2_with fail
  generalize w.alloc (.cells #[sv [], sv [], .bool false, .int .i64 0] 37) = w1 at *
  replace h4 := h4.ext x1
  go_loopw [8] (fun i wr => ∃ k : Nat, k ≤ L.length ∧ i = .int .i64 k ∧ Hid (firstC (L.take k) key seq = none) ∧ Blk wr w.heap.size 37 #[sv [], sv [], .bool false, .int .i64 0] ∧ Ext w1 wr) (fun i _ => L.length - (intOf i).toNat)
  case atStart => exact ⟨0, Nat.zero_le _, rfl, Lib.hid rfl, B1, Mod.refl _ _⟩
  case round =>
    clear B1
    obtain ⟨k, hk, rfl, hs, B2, x2⟩ := hrel
    by_cases hlt : k < L.length
    case neg =>
      have hbl : decide ((k : Int) < (L.length : Int)) = false := dfalse (by omega)
      have hno : firstC L key seq = none := by have := hs.out; rwa [List.take_of_length_le (by omega)] at this
      have hR2 := Lib.hid (show R = (cz, false) by rw [hR1.out, hno]; rfl)
      clear hR1 hno hs
      have f0 := Blk.frozen B2 0
      have f1 := Blk.frozen B2 1
      have f2 := Blk.frozen B2 2
      have f3 := Blk.frozen B2 3
      have e0 : _ = some _ := Blk.cell B2 0
      have e1 : _ = some _ := Blk.cell B2 1
      have e2 : _ = some _ := Blk.cell B2 2
      have e3 : _ = some _ := Blk.cell B2 3
      go_wp2_with fail
      have R5 := fun p q r s => (((B2.set_ 0 p).set_ 1 q).set_ 2 r).set_ 3 s
      have m9 := fun p q r s => (set4_mod wr w.heap.size p q r s)
      refine bodyPost_ret (results_cell_row2 Tryd.results17 _ _ _ _ _ _ _ rfl (R5 _ _ _ _) Tryd.underlying37 rfl (by kernel_rfl)) rfl ?_
      exact ⟨by rw [hR2.out]; rfl, (ext_trans x1 x2).trans (m9 _ _ _ _) (fun _ _ h => h) (fun k hk h => by omega)⟩
    have hbl : decide ((k : Int) < (L.length : Int)) = true := dtrue (by omega)
    obtain ⟨ad, hA, hS, c0, c1, c2, c3⟩ := Cs.at_ (h4.ext x2) hlt
    subst hA
    have hsn : firstC (L.take (k + 1)) key seq = (if (L[k].key == key && decide (L[k].seq ≤ seq)) = true then some L[k] else none) := by
      unfold firstC at hs ⊢
      rw [List.take_succ_eq_append_getElem hlt, List.find?_append, hs.out, Option.none_or, List.find?_cons, List.find?_nil]
      cases (L[k].key == key && decide (L[k].seq ≤ seq)) <;> rfl
    have hfound : (L[k].key == key && decide (L[k].seq ≤ seq)) = true → firstC L key seq = some L[k] := fun h => by
      have h1 := hsn
      rw [if_pos h] at h1
      exact firstC_take h1
    have hi0 : (0 : Int) ≤ (k : Int) := by omega
    have hi1 : (k : Int) < (L.length : Int) := by omega
    generalize L[k] = x at *
    clear hs
    cases hq1 : (x.key == key)
    case false =>
      rw [hq1, Bool.false_and, if_neg (by decide)] at hsn
      replace hsn := Lib.hid hsn
      clear hfound
      go_wp2_with fail
      exact ⟨⟨k + 1, by omega, by go_num, hsn, B2, x2⟩, by simp [intOf] <;> omega⟩
    rw [hq1, Bool.true_and] at hsn hfound
    cases hq2 : decide (x.seq ≤ seq)
    case false =>
      rw [hq2, if_neg (by decide)] at hsn
      replace hsn := Lib.hid hsn
      clear hfound
      go_wp2_with fail
      exact ⟨⟨k + 1, by omega, by go_num, hsn, B2, x2⟩, by simp [intOf] <;> omega⟩
    have hR2 := Lib.hid (show R = (x, true) by rw [hR1.out, hfound hq2]; rfl)
    clear hfound hsn hR1
    have f0 := Blk.frozen B2 0
    have f1 := Blk.frozen B2 1
    have f2 := Blk.frozen B2 2
    have f3 := Blk.frozen B2 3
    have e0 : _ = some _ := Blk.cell B2 0
    have e1 : _ = some _ := Blk.cell B2 1
    have e2 : _ = some _ := Blk.cell B2 2
    have e3 : _ = some _ := Blk.cell B2 3
    go_wp2_with fail
    have R5 := fun p q r s => (((B2.set_ 0 p).set_ 1 q).set_ 2 r).set_ 3 s
    have m9 := fun p q r s => (set4_mod wr w.heap.size p q r s)
    refine bodyPost_ret (results_cell_row2 Tryd.results17 _ _ _ _ _ _ _ rfl (R5 _ _ _ _) Tryd.underlying37 rfl (by kernel_rfl)) rfl ?_
    exact ⟨by rw [hR2.out]; rfl, (ext_trans x1 x2).trans (m9 _ _ _ _) (fun _ _ h => h) (fun k hk h => by omega)⟩
end Go.Proofs.YthohghnfiicndaaDoor
namespace Go.Proofs.YthohghnfiicndaaDoor
open Go.RowKit
set_option maxRecDepth 100000

abbrev szO (st : Option (List UInt8)) : Nat := (st.getD []).length
theorem takeB_sum (st : Option (List UInt8)) : (takeB st).1.length + szO (takeB st).2 ≤ szO st := by
  have h := takeN_len st
  unfold takeB
  generalize (takeN st).1 = n at *
  generalize (takeN st).2 = t at *
  cases t with
  | none => exact Nat.zero_le _
  | some l =>
    unfold takeRaw
    have e0 : ((some l).getD []).length = l.length := rfl
    by_cases hn : (n : Int) < 0 ∨ (l.length : Int) < (n : Int)
    · simp only [if_pos hn]
      exact Nat.zero_le _
    · simp only [if_neg hn]
      show (l.take _).length + (l.drop _).length ≤ szO st
      rw [List.length_take, List.length_drop]
      unfold szO
      omega

/-- What stands between the calls: the reader, and the cells of one's own. -/
structure Rk (w : World) (g : Nat) (T : Nat → Prop) (wr : World) (vr : Value) (st : Option (List UInt8)) (va : Value) (acc : List Ce) : Prop where
  r : Rr wr g T vr st
  p : OwnC wr va acc
  fr : Fresh (g + 1) va
  ex : Ext w wr
  lo : w.heap.size ≤ g
  ts : ∀ k, T k → k < w.heap.size
section
variable {w wr w' : World} {g : Nat} {T F : Nat → Prop} {vr v' va : Value} {st st' : Option (List UInt8)} {acc : List Ce}
theorem Rk.call (h : Rk w g T wr vr st va acc) (r' : Rr w' g T v' st') (m : Mod (fun k => k = g) wr w') : Rk w g T w' v' st' va acc :=
  ⟨r', h.p.mod m (fun b hb hF => by have := h.fr b hb; omega), h.fr, h.ex.trans m (fun _ _ h => h) (fun k hk hF => by have := h.lo; omega), h.lo, h.ts⟩
theorem Rk.mod (h : Rk w g T wr vr st va acc) (m : Mod F wr w') (hF : ∀ k, F k → g < k ∧ ¬ own va k) : Rk w g T w' vr st va acc :=
  ⟨h.r.mod m (fun hg => by have := (hF g hg).1; omega) (fun k _ hk hf => by have := h.ts k hk; have := (hF k hf).1; have := h.lo; omega), h.p.mod m (fun b hb hf => (hF b hf).2 hb), h.fr,
    h.ex.trans m (fun _ _ h => h) (fun k hk hf => by have := (hF k hf).1; have := h.lo; omega), h.lo, h.ts⟩
theorem Rk.ext (h : Rk w g T wr vr st va acc) (m : Ext wr w') : Rk w g T w' vr st va acc := h.mod m (fun _ h => h.elim)
theorem Rr.rlen (h : Rr wr g T vr st) : rlen wr g = szO st := by
  obtain ⟨A, c, hv, _⟩ := h.row.open_
  unfold Proofs.YthohghnfiicndaaDoor.rlen
  rw [h.blk.c1.1, hv]
/-- The new room of a call. -/
theorem Rk.begin {y : Value} {bs : List UInt8} {S : Nat → Prop} (hy : Bs w S y bs) : Rk w w.heap.size (fun k => S k ∧ k < w.heap.size) (w.alloc (.cells #[y, .bool false] 80)) y (some bs) (.slice none 0 0) [] :=
  ⟨⟨Blk.new w _ _, (hy.mono fun k hk hs => ⟨hs, hk⟩).ext ((Mod.refl _ w).alloc _), fun h => absurd h.2 (Nat.lt_irrefl _)⟩, OwnR.nil _ _ _ _, fresh_nil _ _ _, (Mod.refl _ w).alloc _, Nat.le_refl _, fun k hk => hk.2⟩
end
/-- The key behind. -/
theorem prevC_snoc (acc : List Ce) (c : Ce) : prevC (acc ++ [c]) (acc ++ [c]).length = c.key := by
  unfold prevC
  rw [if_neg (by simp)]
  simp
end Go.Proofs.YthohghnfiicndaaDoor
namespace Go.Proofs.YthohghnfiicndaaDoor
open Go.RowKit
set_option maxRecDepth 100000

theorem set1_mod (w : World) (g i : Nat) (u : Value) : Mod (fun k => k = g) w (w.setCell ⟨g, i, none⟩ u) := (Mod.refl (fun k => k = g) w).setCell (p := ⟨g, i, none⟩) (fun _ => rfl) u

theorem Rk.app {w wr w' : World} {g : Nat} {T : Nat → Prop} {vr v' va : Value} {st : Option (List UInt8)} {acc : List Ce} {c : Ce} (h : Rk w g T wr vr st va acc) (k1 : OwnC w' v' (acc ++ [c])) (k2 : Mod (own va) wr w') (k3 : Next wr.heap.size va v') : Rk w g T w' vr st v' (acc ++ [c]) :=
  ⟨h.r.mod k2 (fun hg => by have := h.fr g hg; omega) (fun k _ hk ho => by have := h.fr k ho; have := h.ts k hk; have := h.lo; omega), k1, k3.fresh h.fr h.r.blk.lt,
    h.ex.trans k2 (fun _ _ h => h) (fun k hk ho => by have := h.fr k ho; have := h.lo; omega), h.lo, h.ts⟩

set_option maxHeartbeats 32000000 in
theorem rdecode_any {w : World} {S : Nat → Prop} {y : Value} {bs : List UInt8} (hy : Bs w S y bs) (hlen : bs.length ≤ 3100) :
    Calls Tryd.prog 49 #[y] w fun e w' => ∃ v', e = .returned (.tuple #[v', .int .i64 (decB bs).2]) ∧ OwnC w' v' (decB bs).1 ∧ Fresh w.heap.size v' ∧ Ext w w' := by
  obtain ⟨V, hV⟩ : ∃ V, V = rdecF (bs.length + 1) [] bs [] := ⟨_, rfl⟩
  obtain ⟨R, hR⟩ : ∃ R, R = decB bs := ⟨_, rfl⟩
  rw [← hR]
  have hRV : R = outD bs V := by rw [hR, hV, rdecB]
  clear hR
  replace hRV := Lib.hid hRV
  replace hV := Lib.hid hV
  obtain ⟨A, c, hyv, -⟩ := hy.open_
  subst hyv
  have D0 := Rk.begin hy
  obtain ⟨T, hT⟩ : ∃ T : Nat → Prop, T = fun k => S k ∧ k < w.heap.size := ⟨_, rfl⟩
  rw [← hT] at D0
  clear hT
  go_enter Tryd.func49, Tryd.ntmps49
  go_wp2_with fail
  generalize w.alloc (.cells #[.slice A bs.length c, .bool false] 80) = w1 at *
  obtain ⟨g, hg⟩ : ∃ g, g = w.heap.size := ⟨_, rfl⟩
  rw [← hg] at D0 ⊢
  replace hg := Lib.hid hg
  go_loopw [5] (fun t wr => ∃ (l : List UInt8) (acc : List Ce) (f : Nat) (vr va : Value), t = va ∧ Rk w g T wr vr (some l) va acc ∧ Hid (l.length < f ∧ rdecF f (prevC acc acc.length) l acc = V ∧ (prevC acc acc.length).length + l.length ≤ bs.length ∧ acc.length + l.length ≤ bs.length ∧ wC acc ≤ 6201 * acc.length)) (fun _ wr => rlen wr g)
  case atStart => exact ⟨bs, [], bs.length + 1, _, _, rfl, D0, Lib.hid ⟨by omega, hV.out.symm, by simp [prevC], by simp, by simp [wC]⟩⟩
  case round =>
    clear D0
    obtain ⟨l, acc, f, vr, va, rfl, D, hf⟩ := hrel
    have hat := D.r.rlen
    obtain ⟨A1, c1, hvr, -⟩ := (show Bs wr T vr l from D.r.row).open_
    obtain ⟨A5, c5, hva⟩ := D.p.shape
    subst hvr
    subst hva
    have b0 : wr.cell? ⟨g, 0, none⟩ = some (.slice A1 l.length c1) := D.r.blk.c1.1
    have b1 : wr.cell? ⟨g, 1, none⟩ = some (.bool false) := D.r.blk.c1.2
    by_cases hl0 : l = []
    · subst hl0
      have hb0 : decide (0 < ([] : List UInt8).length) = false := dfalse (by simp)
      have hV0 : V = some acc := by
        obtain ⟨h1, h2, -⟩ := hf.out
        obtain ⟨f, rfl⟩ : ∃ g, f = g + 1 := ⟨f - 1, by omega⟩
        rw [← h2, rdecF, if_pos rfl]
      have hen := fun (wx : World) (hx : Ext wr wx) => rencode_any (D.p.rc.ext hx) (by have := hf.out; omega)
      obtain ⟨RN, hRN⟩ : ∃ x, x = riseN acc := ⟨_, rfl⟩
      obtain ⟨EN, hEN⟩ : ∃ x, x = encR acc := ⟨_, rfl⟩
      rw [← hRN, ← hEN] at hen
      have hRout : Hid (R = if riseN acc = 0 ∧ encB acc = bs then (acc, 0) else ([], 3)) := Lib.hid (by rw [hRV.out, hV0]; rfl)
      replace hRN := Lib.hid hRN
      replace hEN := Lib.hid hEN
      go_wp2_with fail
      refine (hen _ (Mod.refl _ _)).mono ?_
      rintro e w2 ⟨v2, rfl, o2, -, x2⟩
      have D2 := D.ext x2
      have b1 : w2.cell? ⟨g, 1, none⟩ = some (.bool false) := D2.r.blk.c1.2
      have y2 := run_conv (P := Tryd.prog) Tryd.underlying24 Tryd.underlying5 Tryd.underlying9 o2.sl
      have y3 := run_conv (P := Tryd.prog) Tryd.underlying24 Tryd.underlying5 Tryd.underlying9 (hy.ext D2.ex)
      by_cases h0 : RN = 0
      case neg =>
        have hb1 : ((RN : Int) != 0) = true := by rw [bne_iff_ne]; omega
        have hR3 := Lib.hid (hRout.out.trans (if_neg (fun h => h0 (hRN.out.trans h.1))))
        clear h0
        go_wp2_with fail
        go_ret2
        exact ⟨_, by rw [hR3.out]; rfl, by rw [hR3.out]; exact OwnR.nil _ _ _ _, fresh_nil _ _ _, D2.ex⟩
      have hb1 : ((RN : Int) != 0) = false := by rw [h0]; rfl
      by_cases hE : EN = bs
      case neg =>
        have hbe : (EN != bs) = true := by rw [bne_iff_ne]; exact hE
        have hbq : (EN == bs) = false := by rw [beq_eq_false_iff_ne]; exact hE
        have hR3 := Lib.hid (hRout.out.trans (if_neg (fun h => hE (by rw [hEN.out, encR_zero h.1]; exact h.2))))
        clear h0
        go_wp2_with fail
        go_ret2
        exact ⟨_, by rw [hR3.out]; rfl, by rw [hR3.out]; exact OwnR.nil _ _ _ _, fresh_nil _ _ _, D2.ex⟩
      have hbe : (EN != bs) = false := by rw [bne_eq_false_iff_eq]; exact hE
      have hbq : (EN == bs) = true := by rw [beq_iff_eq]; exact hE
      have hR3 := Lib.hid (hRout.out.trans (if_pos ⟨hRN.out.symm.trans h0, by rw [← encR_zero (hRN.out.symm.trans h0), ← hEN.out]; exact hE⟩))
      clear h0 hE
      go_wp2_with fail
      go_ret2
      exact ⟨_, by rw [hR3.out]; rfl, by rw [hR3.out]; exact D2.p, fun i hi => by have := D2.fr i hi; have := D2.lo; omega, D2.ex⟩
    have hpos : 0 < l.length := List.length_pos_iff.2 hl0
    have hb0 : decide ((0 : Int) < (l.length : Int)) = true := dtrue (by omega)
    rcases e1 : takeN (some l) with ⟨n, s1⟩
    rcases e2 : takeB s1 with ⟨rs, s2⟩
    rcases e3 : takeN s2 with ⟨q, s3⟩
    rcases e4 : takeN s3 with ⟨d, s4⟩
    rcases e5 : takeB s4 with ⟨vl, s5⟩
    have hpt := takeC_parts (a := prevC acc acc.length) e1 e2 e3 e4
    rw [e5] at hpt
    have z0 : l.length ≤ 3100 := by have := hf.out; omega
    have z1 : szO s1 ≤ l.length := by have := takeN_len (some l); rw [e1] at this; exact this
    have z2 : rs.length + szO s2 ≤ szO s1 := by have := takeB_sum s1; rw [e2] at this; exact this
    have z3 : szO s3 ≤ szO s2 := by have := takeN_len s2; rw [e3] at this; exact this
    have z4 : szO s4 ≤ szO s3 := by have := takeN_len s3; rw [e4] at this; exact this
    have z5 : vl.length + szO s5 ≤ szO s4 := by have := takeB_sum s4; rw [e5] at this; exact this
    have k1 := fun (wx : World) (v : Value) (r : Rr wx g T v (some l)) => rrnum_any r (by show l.length ≤ _; omega)
    have k2 := fun (wx : World) (v : Value) (r : Rr wx g T v s1) => rrbytes_any r (by show szO s1 ≤ _; omega)
    have k3 := fun (wx : World) (v : Value) (r : Rr wx g T v s2) => rrnum_any r (by show szO s2 ≤ _; omega)
    have k4 := fun (wx : World) (v : Value) (r : Rr wx g T v s3) => rrnum_any r (by show szO s3 ≤ _; omega)
    have k5 := fun (wx : World) (v : Value) (r : Rr wx g T v s4) => rrbytes_any r (by show szO s4 ≤ _; omega)
    simp only [e1] at k1
    simp only [e2] at k2
    simp only [e3] at k3
    simp only [e4] at k4
    simp only [e5] at k5
    replace hpt := Lib.hid hpt
    have hfl := hf.out
    obtain ⟨f, rfl⟩ : ∃ g, f = g + 1 := ⟨f - 1, by omega⟩
    have hVn : Hid (∀ c, takeC (prevC acc acc.length) (some l) = (c, none) → V = none) := Lib.hid fun c h => by rw [← hfl.2.1, rdecF_none hl0 h]
    have hVs : Hid (∀ c l', takeC (prevC acc acc.length) (some l) = (c, some l') → rdecF f c.key l' (acc ++ [c]) = V) := Lib.hid fun c l' h => by rw [← hfl.2.1, rdecF_step hl0 h]
    have hal : (prevC acc acc.length).length ≤ 3100 := by omega
    clear hfl e1 e2 e3 e4 e5
    go_wp2_with fail
    refine (k1 _ _ D.r).mono ?_
    rintro e w2 ⟨v2, rfl, r2, m2⟩
    have D2 := D.call r2 m2
    clear b0 b1 D m2 k1
    go_wp2_with fail
    refine (k2 _ _ D2.r).mono ?_
    rintro e w3 ⟨v3, vb, rfl, r3, ob, fb, m3⟩
    have D3 := D2.call r3 m3
    have yb3 := ob.sl
    have hvb : Hid (∀ k, own vb k → g < k ∧ k < w3.heap.size) := Lib.hid fun k hk => ⟨by have := fb k hk; have := r2.blk.lt; omega, ob.lt hk⟩
    clear D2 m3 k2 r2 ob fb
    go_wp2_with fail
    refine (k3 _ _ D3.r).mono ?_
    rintro e w4 ⟨v4, rfl, r4, m4⟩
    have D4 := D3.call r4 m4
    have yb4 := yb3.mod m4 (fun k _ hk hF => by have := (hvb.out k hk).1; omega)
    have sz4 := m4.size
    clear D3 m4 k3 r3 yb3
    have D5 := D4.ext ((Mod.refl (fun _ => False) w4).alloc (.cells #[sv [], sv [], .bool false, .int .i64 q] 37))
    have yb5 := yb4.ext ((Mod.refl (fun _ => False) w4).alloc (.cells #[sv [], sv [], .bool false, .int .i64 q] 37))
    have B5 : Blk (w4.alloc (.cells #[sv [], sv [], .bool false, .int .i64 q] 37)) w4.heap.size 37 #[sv [], sv [], .bool false, .int .i64 q] := Blk.new w4 _ _
    have hno : Hid (∀ k, own (.slice A5 acc.length c5) k → k < w4.heap.size) := Lib.hid fun k hk => D4.p.lt hk
    have hgl : Hid (g < w4.heap.size) := Lib.hid r4.blk.lt
    have hvb4 : Hid (∀ k, own vb k → g < k ∧ k < w4.heap.size) := Lib.hid fun k hk => ⟨(hvb.out k hk).1, by have := (hvb.out k hk).2; omega⟩
    clear hvb D4 yb4 sz4
    go_wp2_with fail
    refine (k4 _ _ D5.r).mono ?_
    rintro e w6 ⟨v6, rfl, r6, m6⟩
    have D6 := D5.call r6 m6
    have yb6 := yb5.mod m6 (fun k _ hk hF => by have := (hvb4.out k hk).1; omega)
    have B6 := B5.mod m6 (fun hF => by have := hgl.out; omega)
    clear D5 yb5 B5 m6 k4 r4
    generalize w4.heap.size = g8 at *
    have f2 := Blk.frozen B6 2
    have e2 : _ = some _ := Blk.cell B6 2
    obtain ⟨bd, hbd⟩ : ∃ bd, bd = decide (d = 1) := ⟨_, rfl⟩
    have hd1 : ((d : Int) == 1) = bd := by rw [hbd, Bool.eq_iff_iff, beq_iff_eq, decide_eq_true_eq]; omega
    obtain ⟨vv, hvv⟩ : ∃ vv, vv = if d = 0 then vl else [] := ⟨_, rfl⟩
    obtain ⟨s6, hs6⟩ : ∃ s6, s6 = if d = 0 then s5 else s4 := ⟨_, rfl⟩
    replace hbd := Lib.hid hbd
    replace hvv := Lib.hid hvv
    replace hs6 := Lib.hid hs6
    have hF : Hid (∀ k, k = g8 → g < k ∧ ¬ own (.slice A5 acc.length c5) k) := Lib.hid fun k hk => ⟨by rw [hk]; exact hgl.out, fun ho => by have := hno.out k ho; omega⟩
    have D7 := D6.mod (set1_mod w6 g8 2 (.bool bd)) hF.out
    have yb7 := yb6.mod (set1_mod w6 g8 2 (.bool bd)) (fun k _ hk hF => by have := (hvb4.out k hk).2; omega)
    have B7 : Blk (w6.setCell ⟨g8, 2, none⟩ (.bool bd)) g8 37 #[sv [], sv [], .bool bd, .int .i64 q] := B6.set_ 2 (.bool bd)
    clear D6 yb6 B6
    go_upto_if 42 with fail
    clear f2 e2
    go_cut [8] (fun s8 wx => s8 = .pointer (some ⟨g8, 0, none⟩) ∧ (∃ v8, Rk w g T wx v8 s6 (.slice A5 acc.length c5) acc) ∧ Blk wx g8 37 #[sv [], sv vv, .bool bd, .int .i64 q] ∧ Bs wx (own vb) vb rs)
    case first =>
      by_cases hd0 : d = 0
      · have hb : ((d : Int) == 0) = true := by rw [hd0]; rfl
        have hvv2 := Lib.hid (hvv.out.trans (if_pos hd0))
        have hs62 := Lib.hid (hs6.out.trans (if_pos hd0))
        clear hd0 hvv hs6
        go_wp2_with fail
        refine (k5 _ _ D7.r).mono ?_
        rintro e w8 ⟨v8, vc, rfl, r8, oc, -, m8⟩
        have D8 := D7.call r8 m8
        have B8 := B7.mod m8 (fun hF => by have := hgl.out; omega)
        have yb8 := yb7.mod m8 (fun k _ hk hF => by have := (hvb4.out k hk).1; omega)
        have hcv := run_conv (P := Tryd.prog) Tryd.underlying24 Tryd.underlying5 Tryd.underlying9 oc.sl
        have f1 := Blk.frozen B8 1
        have e1 : _ = some _ := Blk.cell B8 1
        clear D7 B7 yb7 k5 oc m8
        go_wp2_with fail
        (try go_meet)
        rw [hs62.out, hvv2.out]
        exact ⟨rfl, ⟨_, D8.mod (set1_mod w8 g8 1 (sv vl)) hF.out⟩, B8.set_ 1 (sv vl), yb8.mod (set1_mod w8 g8 1 (sv vl)) (fun k _ hk hF => by have := (hvb4.out k hk).2; omega)⟩
      · have hb : ((d : Int) == 0) = false := by rw [beq_eq_false_iff_ne]; omega
        have hvv2 := Lib.hid (hvv.out.trans (if_neg hd0))
        have hs62 := Lib.hid (hs6.out.trans (if_neg hd0))
        clear hd0 hvv hs6
        go_wp2_with fail
        (try go_meet)
        rw [hs62.out, hvv2.out]
        exact ⟨rfl, ⟨_, D7⟩, B7, yb7⟩
    case rest =>
      obtain ⟨rfl, ⟨v8, D8⟩, B8, yb8⟩ := hcut
      clear D7 B7 yb7 k5
      obtain ⟨last, hlast⟩ : ∃ last, last = prevC acc acc.length := ⟨_, rfl⟩
      rw [← hlast] at hpt hVn hVs hal
      replace hlast := Lib.hid hlast
      obtain ⟨A9, c9, hv9, -, -, -, h4⟩ := D8.p.rc.open_ cel_len
      injection hv9 with hv9 _ hv10
      subst hv9
      subst hv10
      go_upto_if 49 with fail
      go_cut [10] (fun s10 wx => s10 = sv last ∧ wx = wc)
      case first =>
        by_cases h0 : acc.length = 0
        · have hb : decide (0 < acc.length) = false := dfalse (by omega)
          have hl2 : Hid (last = []) := Lib.hid (by rw [hlast.out, h0]; rfl)
          have hz : ¬ 0 < acc.length := by omega
          clear h0
          go_wp2_with fail
          go_meet
          rw [hl2.out]
          exact ⟨rfl, rfl⟩
        · obtain ⟨m, hm⟩ : ∃ m, acc.length = m + 1 := ⟨acc.length - 1, by omega⟩
          obtain ⟨ad, hA, -, c0, c1, c2, c3⟩ := Cs.at_ h4 (i := m) (by omega)
          subst hA
          have hl2 : Hid (last = (acc[m]'(by omega)).key) := Lib.hid (by
            rw [hlast.out]
            unfold prevC
            rw [if_neg h0, show acc.length - 1 = m by omega, getD_c acc (k := m) (by omega)])
          have hi1 : (m : Int) < (acc.length : Int) := by omega
          have hi0 : (0 : Int) ≤ (m : Int) := by omega
          have hm2 : acc.length ≤ 3100 := by have := hf.out; omega
          have hz : 0 < acc.length := by omega
          have hi2 : (acc.length : Int) - 1 = (m : Int) := by omega
          generalize (acc[m]'(by omega)) = x at *
          clear hm h0
          go_wp2_with fail
          go_meet
          rw [hl2.out]
          exact ⟨rfl, rfl⟩
      case rest =>
        obtain ⟨rfl, rfl⟩ := hcut
        have hno3 : Hid (s6 = none ∨ last.length < n ∨ 1 < d → R = ([], 3)) := Lib.hid fun h => by
          have hx : ∃ c, takeC last (some l) = (c, none) := by
            rw [hpt.out]
            by_cases h1 : last.length < n
            · exact ⟨_, if_pos h1⟩
            · rw [if_neg h1]
              by_cases h2 : d = 1
              · have h6 := hs6.out
                rw [if_neg (by omega)] at h6
                rw [if_pos h2]
                rcases h with h | h | h
                · exact ⟨_, by rw [← h6, h]⟩
                · exact absurd h h1
                · omega
              · rw [if_neg h2]
                by_cases h3 : 1 < d
                · exact ⟨_, if_pos h3⟩
                · have h6 := hs6.out
                  rw [if_pos (by omega)] at h6
                  rw [if_neg h3]
                  rcases h with h | h | h
                  · exact ⟨_, by rw [← h6, h]⟩
                  · exact absurd h h1
                  · exact absurd h h3
          obtain ⟨c, hc⟩ := hx
          rw [hRV.out, hVn.out c hc]
          rfl
        have hzl := sv_size last
        cases s6 with
        | none =>
          have b1 : wc.cell? ⟨g, 1, none⟩ = some (.bool true) := D8.r.blk.c1.2
          have hR3 := Lib.hid (hno3.out (.inl rfl))
          go_wp2_with fail
          go_ret2
          exact ⟨_, by rw [hR3.out]; rfl, by rw [hR3.out]; exact OwnR.nil _ _ _ _, fresh_nil _ _ _, D8.ex⟩
        | some l' =>
          have b1 : wc.cell? ⟨g, 1, none⟩ = some (.bool false) := D8.r.blk.c1.2
          by_cases hfar : last.length < n
          case pos =>
            have hb : decide (last.length < n) = true := dtrue hfar
            have hb' : decide ((last.length : Int) < (n : Int)) = true := dtrue (by omega)
            have hf1 : ¬ n ≤ last.length := by omega
            have hR3 := Lib.hid (hno3.out (.inr (.inl hfar)))
            clear hfar
            go_wp2_with fail
            go_ret2
            exact ⟨_, by rw [hR3.out]; rfl, by rw [hR3.out]; exact OwnR.nil _ _ _ _, fresh_nil _ _ _, D8.ex⟩
          have hb : decide (last.length < n) = false := dfalse hfar
          have hb' : decide ((last.length : Int) < (n : Int)) = false := dfalse (by omega)
          have hf1 : n ≤ last.length := by omega
          by_cases hgt : 1 < d
          case pos =>
            have hb2 : decide (1 < d) = true := dtrue hgt
            have hb2' : decide ((1 : Int) < (d : Int)) = true := dtrue (by omega)
            have hf2 : ¬ (d : Int) ≤ 1 := by omega
            have hR3 := Lib.hid (hno3.out (.inr (.inr hgt)))
            go_wp2_with fail
            go_ret2
            exact ⟨_, by rw [hR3.out]; rfl, by rw [hR3.out]; exact OwnR.nil _ _ _ _, fresh_nil _ _ _, D8.ex⟩
          have hb2 : decide (1 < d) = false := dfalse hgt
          have hb2' : decide ((1 : Int) < (d : Int)) = false := dfalse (by omega)
          have hf2 : (d : Int) ≤ 1 := by omega
          have htc : Hid (takeC last (some l) = (⟨last.take n ++ rs, vv, bd, (q : Nat)⟩, some l')) := Lib.hid (by
            rw [hpt.out, if_neg hfar]
            by_cases h2 : d = 1
            · have h6 := hs6.out
              rw [if_neg (by omega)] at h6
              have hv := hvv.out
              rw [if_neg (by omega)] at hv
              rw [if_pos h2, hv, hbd.out, decide_eq_true h2, ← h6]
            · have h6 := hs6.out
              rw [if_pos (by omega)] at h6
              have hv := hvv.out
              rw [if_pos (by omega)] at hv
              rw [if_neg h2, if_neg hgt, hv, hbd.out, decide_eq_false h2, ← h6])
          have hlt := takeC_lt htc.out
          have hz6 : l'.length ≤ szO s4 := by
            have h6 := hs6.out
            have e : l'.length = szO (some l') := rfl
            rw [e, h6]
            split <;> omega
          have hzv : vv.length ≤ 3100 := by
            rw [hvv.out]
            split
            · omega
            · exact Nat.zero_le _
          have hV2 := Lib.hid (hVs.out _ _ htc.out)
          have hn0 : (0 : Int) ≤ (n : Int) := by omega
          have hn1 : (n : Int) ≤ (last.length : Int) := by omega
          have hxt := ext_head last n
          have hhl : (last.take n).length ≤ last.length := by rw [List.length_take]; omega
          replace hno3 := hno3
          clear hno3 htc hVn hVs hpt hfar
          generalize last.take n = hd at *
          have hcat := cat_data hd rs
          have hzh := sv_size hd
          have hzr := sv_size rs
          have hcc : ¬ 9223372036854775807 < hd.length + rs.length := by omega
          have D9 := (D8.mod (set1_mod wc g8 0 (sv (hd ++ rs))) hF.out).ext ((Mod.refl (fun _ => False) _).drew)
          have B9 : Blk (wc.setCell ⟨g8, 0, none⟩ (sv (hd ++ rs))) g8 37 (car ⟨hd ++ rs, vv, bd, (q : Nat)⟩) := Blk.set_ B8 0 (sv (hd ++ rs))
          have yb9 := (yb8.ext ((Mod.refl (fun _ => False) wc).drew)).mod (set1_mod wc.drew g8 0 (sv (hd ++ rs))) (fun k _ hk hF => by have := (hvb4.out k hk).2; omega)
          have hcv := run_conv (P := Tryd.prog) Tryd.underlying24 Tryd.underlying5 Tryd.underlying9 (yb8.ext ((Mod.refl (fun _ => False) wc).drew))
          have hcv9 := run_conv (P := Tryd.prog) Tryd.underlying24 Tryd.underlying5 Tryd.underlying9 yb9
          have f0 : wc.drew.frozen? ⟨g8, 0, none⟩ = false := Blk.frozen (w := wc.drew) B8 0
          have e0 : wc.drew.cell? ⟨g8, 0, none⟩ = some (sv []) := Blk.cell (w := wc.drew) B8 0
          go_wp2_with fail
          go_region_held3 (fun w' => (convert 24 9 vb).run Tryd.prog w' = .ok (sv rs) w') (first | exact hcv | exact hcv9) (fail)
          obtain ⟨wn, hwn⟩ : ∃ wn, wn = (wc.setCell ⟨g8, 0, none⟩ (sv (hd ++ rs))).drew := ⟨_, rfl⟩
          rw [← hwn] at D9
          have B9 : Blk wn g8 37 (car ⟨hd ++ rs, vv, bd, (q : Nat)⟩) := by rw [hwn]; exact B9
          rw [← hwn]
          replace hwn := Lib.hid hwn
          have e0' : _ = some (sv (hd ++ rs)) := Blk.cell B9 0
          have e1' : _ = some (sv vv) := Blk.cell B9 1
          have e2' : _ = some (Value.bool bd) := Blk.cell B9 2
          have e3' : _ = some (Value.int .i64 (q : Nat)) := Blk.cell B9 3
          have hn1 := Lib.hid (show (acc.length + 1) * 48 ≤ 140737488355328 by have := hf.out; omega)
          clear hcv hcv9 hcat hcc f0 e0 yb9
          go_wp2_with ((with_reducible show wpList _ _ _ (⟨some 81, _, _, _, _, _⟩ :: _) _ _); refine wp_appR (x := (⟨hd ++ rs, vv, bd, (q : Nat)⟩ : Ce)) tyC cel_len D9.p rfl (cel_ok _) hn1.out rfl (.tmp 78) (.tmp 80) rfl rfl rfl ?_; intro v10 w10 k1 k2 k3)
          have D10 := D9.app k1 k2 k3
          have hff := hf.out
          have hlst := hlast.out
          refine ⟨⟨l', acc ++ [⟨hd ++ rs, vv, bd, (q : Nat)⟩], f, v8, v10, rfl, D10, Lib.hid ⟨?_, ?_, ?_, ?_, ?_⟩⟩, ?_⟩
          · omega
          · rw [prevC_snoc]; exact hV2.out
          · rw [prevC_snoc]
            show (hd ++ rs).length + l'.length ≤ bs.length
            rw [← hlst] at hff
            rw [List.length_append]
            omega
          · rw [List.length_append, List.length_singleton]; omega
          · rw [wC_append, List.length_append, List.length_singleton]
            have : wC [(⟨hd ++ rs, vv, bd, (q : Nat)⟩ : Ce)] = 1 + (hd ++ rs).length + vv.length := by unfold wC; simp
            rw [← hlst] at hff
            rw [this, List.length_append]
            omega
          · rw [D10.r.rlen, hat]
            exact hlt
end Go.Proofs.YthohghnfiicndaaDoor
