/- batch: rows taken from bytes, in both ways. -/
import Derived.Test.YtlfooppmdgddkaaBatJ
import Derived.Test.YtlfooppmdgddkaaCelG
import Derived.Test.YtlfooppmdgddkaaCelH
namespace Go.Proofs.Ytlfooppmdgddkaa
open Go.RowKit
set_option maxRecDepth 100000

abbrev St := Option (List UInt8)
/-- A row taken, as the program does it. -/
def takeA (st : St) : Ro × St :=
  let k := takeB st
  let d := takeN k.2
  if 0 < d.1 then (⟨k.1, [], true⟩, d.2) else let v := takeB d.2; (⟨k.1, v.1, false⟩, v.2)
/-- A row taken, in the document's way. -/
def takeD (st : St) : Ro × St :=
  let k := takeB st
  let d := takeN k.2
  if d.1 = 0 then let v := takeB d.2; (⟨k.1, v.1, false⟩, v.2) else (⟨k.1, [], decide (d.1 = 1)⟩, d.2)
def remS (st : St) : Nat := (st.getD []).length
/-- What lies behind k takes, and what was taken. -/
def stK (f : St → Ro × St) (st : St) : Nat → St
  | 0 => st
  | k + 1 => (f (stK f st k)).2
def lsK (f : St → Ro × St) (st : St) : Nat → List Ro
  | 0 => []
  | k + 1 => lsK f st k ++ [(f (stK f st k)).1]
theorem lsK_len (f : St → Ro × St) (st : St) : ∀ k, (lsK f st k).length = k
  | 0 => rfl
  | k + 1 => by unfold lsK; rw [List.length_append, lsK_len f st k]; rfl
/-- It takes no more than there is. -/
def Eats (f : St → Ro × St) : Prop := ∀ st, (f st).1.key.length + (f st).1.val.length + remS (f st).2 ≤ remS st ∧ (∀ l, st = some l → (f st).2 ≠ none → remS (f st).2 < remS st)
theorem takeRaw_both (n : Nat) (st : St) : (takeRaw n st).1.length + remS (takeRaw n st).2 ≤ remS st := by
  unfold takeRaw remS
  cases st with
  | none => simp
  | some l =>
    dsimp only
    split
    · simp
    · simp only [Option.getD_some, List.length_take, List.length_drop]; omega
theorem takeB_both (st : St) : (takeB st).1.length + remS (takeB st).2 ≤ remS st := by
  have h1 := takeRaw_both (takeN st).1 (takeN st).2
  have h2 := takeN_len st
  unfold takeB
  unfold remS at *
  omega
theorem takeB_some {st : St} (h : (takeB st).2 ≠ none) : (takeN st).2 ≠ none := by
  intro e
  apply h
  unfold takeB
  rw [e]
  rfl
theorem takeN_some {st : St} (h : (takeN st).2 ≠ none) : ∃ l, st = some l ∧ remS (takeN st).2 < remS st := by
  cases st with
  | none => exact absurd rfl h
  | some l =>
    refine ⟨l, rfl, ?_⟩
    cases ht : (takeN (some l)).2 with
    | none => exact absurd ht h
    | some t =>
      have := takeN_lt (l := l) (t := t) (n := (takeN (some l)).1) (by rw [← ht])
      exact this
theorem takeB_strict {st : St} (h : (takeB st).2 ≠ none) : remS (takeB st).2 < remS st := by
  obtain ⟨_, _, h2⟩ := takeN_some (takeB_some h)
  have h1 := takeRaw_both (takeN st).1 (takeN st).2
  unfold takeB
  omega
theorem eats_A : Eats takeA := by
  intro st
  have h1 := takeB_both st
  have h2 := takeN_len (takeB st).2
  have h3 := takeB_both (takeN (takeB st).2).2
  have hN : ∀ {s : St}, (takeN s).2 ≠ none → remS (takeN s).2 < remS s := fun h => by obtain ⟨_, _, h2⟩ := takeN_some h; exact h2
  unfold takeA
  dsimp only
  by_cases h : 0 < (takeN (takeB st).2).1
  · rw [if_pos h]
    refine ⟨by simp only [List.length_nil]; unfold remS at *; omega, fun l _ hn => ?_⟩
    have := hN hn
    (try dsimp only at *)
    unfold remS at *
    omega
  · rw [if_neg h]
    refine ⟨by unfold remS at *; dsimp only; omega, fun l _ hn => ?_⟩
    have := takeB_strict hn
    (try dsimp only at *)
    unfold remS at *
    omega
theorem eats_D : Eats takeD := by
  intro st
  have h1 := takeB_both st
  have h2 := takeN_len (takeB st).2
  have h3 := takeB_both (takeN (takeB st).2).2
  have hN : ∀ {s : St}, (takeN s).2 ≠ none → remS (takeN s).2 < remS s := fun h => by obtain ⟨_, _, h2⟩ := takeN_some h; exact h2
  unfold takeD
  dsimp only
  by_cases h : (takeN (takeB st).2).1 = 0
  · rw [if_pos h]
    refine ⟨by unfold remS at *; dsimp only; omega, fun l _ hn => ?_⟩
    have := takeB_strict hn
    (try dsimp only at *)
    unfold remS at *
    omega
  · rw [if_neg h]
    refine ⟨by simp only [List.length_nil]; unfold remS at *; omega, fun l _ hn => ?_⟩
    have := hN hn
    (try dsimp only at *)
    unfold remS at *
    omega
/-- It reads what was laid. -/
def Reads (f : St → Ro × St) : Prop := ∀ (r : Ro) (rest : List UInt8), isR r → f (some (encRo r ++ rest)) = (r, some rest)
theorem take_key {r : Ro} (h : isR r) (m : List UInt8) : takeB (some (enc7 r.key.length ++ r.key ++ m)) = (r.key, some m) := takeB_enc r.key m (by have h2 : r.key.length ≤ 4096 := h.2.1; omega)
theorem take_val {r : Ro} (h : isR r) (m : List UInt8) : takeB (some (enc7 r.val.length ++ r.val ++ m)) = (r.val, some m) := takeB_enc r.val m (by have h2 : r.val.length ≤ 16384 := h.2.2.1; omega)
theorem reads_A : Reads takeA := by
  intro r rest h
  have hv : r.del = true → r.val = [] := h.2.2.2.1
  unfold takeA encRo
  rw [List.append_assoc, take_key h]
  dsimp only
  cases hd : r.del
  · simp only [Bool.false_eq_true, if_false]
    rw [List.append_assoc, takeN_enc 0 _ (by omega)]
    dsimp only
    rw [if_neg (by omega), take_val h]
    cases r
    simp_all
  · simp only [if_true]
    rw [takeN_enc 1 _ (by omega)]
    dsimp only
    rw [if_pos (by omega)]
    cases r
    simp_all
theorem reads_D : Reads takeD := by
  intro r rest h
  have hv : r.del = true → r.val = [] := h.2.2.2.1
  unfold takeD encRo
  rw [List.append_assoc, take_key h]
  dsimp only
  cases hd : r.del
  · simp only [Bool.false_eq_true, if_false]
    rw [List.append_assoc, takeN_enc 0 _ (by omega)]
    dsimp only
    rw [if_pos rfl, take_val h]
    cases r
    simp_all
  · simp only [if_true]
    rw [takeN_enc 1 _ (by omega)]
    dsimp only
    rw [if_neg (by omega)]
    cases r
    simp_all
/-- Of bytes that were laid. -/
theorem reads_all {f : St → Ro × St} (hf : Reads f) {L : List Ro} (h : ∀ r ∈ L, isR r) : ∀ (k : Nat), k ≤ L.length → stK f (some (L.flatMap encRo)) k = some ((L.drop k).flatMap encRo) ∧ lsK f (some (L.flatMap encRo)) k = L.take k
  | 0, _ => ⟨by simp [stK], by simp [lsK]⟩
  | k + 1, hk => by
    obtain ⟨h1, h2⟩ := reads_all hf h k (by omega)
    have hlt : k < L.length := by omega
    have h3 := hf L[k] ((L.drop (k + 1)).flatMap encRo) (h _ (List.getElem_mem _))
    have h4 : (L.drop k).flatMap encRo = encRo L[k] ++ (L.drop (k + 1)).flatMap encRo := by rw [List.drop_eq_getElem_cons hlt, List.flatMap_cons]
    unfold stK lsK
    rw [h1, h2, h4, h3]
    exact ⟨rfl, by rw [List.take_succ_eq_append_getElem hlt]⟩
theorem encB10_eq (L : List Ro) : encB10 L = enc7 L.length ++ L.flatMap encRo := by
  unfold encB10 encRs
  rw [List.take_length]
theorem encB10_num {L : List Ro} (h : L.length ≤ 512) : takeN (some (encB10 L)) = (L.length, some (L.flatMap encRo)) := by
  rw [encB10_eq]
  exact takeN_enc _ _ (by omega)
/-- Bytes have one row of rows at most. -/
theorem encB10_inj {L M : List Ro} (h : chkR L = 0) (h' : chkR M = 0) (e : encB10 L = encB10 M) : L = M := by
  obtain ⟨_, l1, l2, _⟩ := chk_zero h
  obtain ⟨_, m1, m2, _⟩ := chk_zero h'
  have e1 := encB10_num l2
  rw [e, encB10_num m2] at e1
  injection e1 with e2 e3
  injection e3 with e3
  have a := (reads_all reads_A l1 L.length (Nat.le_refl _)).2
  have b := (reads_all reads_A m1 M.length (Nat.le_refl _)).2
  rw [List.take_length] at a b
  rw [← a, ← b, e3, e2]
/-- How much was taken. -/
theorem eats_all {f : St → Ro × St} (hf : Eats f) (st : St) : ∀ k, lR (lsK f st k) + remS (stK f st k) ≤ remS st
  | 0 => by simp [lsK, lR, stK]
  | k + 1 => by
    have ih := eats_all hf st k
    have h := (hf (stK f st k)).1
    have h0 : lR [] = 0 := rfl
    have e1 : lsK f st (k + 1) = lsK f st k ++ [(f (stK f st k)).1] := rfl
    have e2 : stK f st (k + 1) = (f (stK f st k)).2 := rfl
    rw [e1, e2, lR_append, lR_cons, h0]
    omega
theorem wR_eq : ∀ L : List Ro, wR L = L.length + lR L
  | [] => rfl
  | a :: L => by rw [wR_cons, lR_cons, wR_eq L, List.length_cons]; omega
/-- Bytes as rows, or refused. -/
def canB (b : List UInt8) (L : List Ro) : Prop := chkR L = 0 ∧ encB10 L = b
end Go.Proofs.Ytlfooppmdgddkaa
namespace Go.Proofs.Ytlfooppmdgddkaa
open Go.RowKit
set_option maxRecDepth 100000

theorem set1_mod (w : World) (g i : Nat) (a : Value) : Mod (fun k => k = g) w (w.setCell ⟨g, i, none⟩ a) := (Mod.refl (fun k => k = g) w).setCell (p := ⟨g, i, none⟩) (fun _ => rfl) a
theorem set3_mod (w : World) (g : Nat) (a b c : Value) : Mod (fun k => k = g) w (((w.setCell ⟨g, 0, none⟩ a).setCell ⟨g, 1, none⟩ b).setCell ⟨g, 2, none⟩ c) :=
  (((Mod.refl (fun k => k = g) w).setCell (p := ⟨g, 0, none⟩) (fun _ => rfl) a).setCell (p := ⟨g, 1, none⟩) (fun _ => rfl) b).setCell (p := ⟨g, 2, none⟩) (fun _ => rfl) c

set_option maxHeartbeats 16000000 in
theorem btake_any {w : World} {b : Nat} {S : Nat → Prop} {v : Value} {st : St} (h : Rd w b S v st) (hS : ∀ k, S k → k < w.heap.size) (hl : remS st ≤ 100000000) :
    Calls Try.prog 88 #[.pointer (some ⟨b, 0, none⟩)] w fun e w' => ∃ v', e = .returned (.agg (rar (takeA st).1)) ∧ Rd w' b S v' (takeA st).2 ∧ Mod (fun k => k = b) w w' := by
  obtain ⟨r, hr⟩ : ∃ r, r = takeA st := ⟨_, rfl⟩
  rw [← hr]
  unfold takeA at hr
  dsimp only at hr
  have t1 := takeB_both st
  have t2 := takeN_len (takeB st).2
  have B0 : Blk (w.alloc (.cells #[sv [], sv [], .bool false] 82)) w.heap.size 82 #[sv [], sv [], .bool false] := Blk.new w _ _
  have x0 : Ext w (w.alloc (.cells #[sv [], sv [], .bool false] 82)) := (Mod.refl _ w).alloc _
  have hbw := h.blk.lt
  have R0 := h.mod x0 (fun h => h) (fun _ _ _ h => h)
  obtain ⟨w0, hw0⟩ : ∃ w0, w0 = w.alloc (.cells #[sv [], sv [], .bool false] 82) := ⟨_, rfl⟩
  rw [← hw0] at B0 x0 R0
  have hb1 := bytes_any R0 (by unfold remS at hl; omega)
  generalize takeB st = kk at *
  obtain ⟨key, s1⟩ := kk
  generalize hnn : takeN s1 = nn at *
  obtain ⟨n, s2⟩ := nn
  dsimp only at *
  replace hr := Lib.hid hr
  replace hw0 := Lib.hid hw0
  clear h
  go_enter Try.func88, Try.ntmps88
  go_upto_region 1 with fail
  rw [← hw0.out]
  go_wp2_with fail
  refine hb1.mono ?_
  rintro e w1 ⟨v1, y1, rfl, R1, o1, f1, m1⟩
  have cv := run_conv (P := Try.prog) Try.underlying30 Try.underlying5 Try.underlying9 o1.sl
  have hb1w : b < w1.heap.size := R1.blk.lt
  have Z1 := B0.mod m1 (by omega)
  have y01 : Mod (fun k => k = b) w w1 := (x0.mono (fun _ _ h => h.elim)).then_ m1 (fun _ _ h => h)
  obtain ⟨w2, hw2⟩ : ∃ w2, w2 = w1.alloc (.cells #[sv key, sv [], .bool false] 82) := ⟨_, rfl⟩
  have B2 : Blk w2 w1.heap.size 82 #[sv key, sv [], .bool false] := by rw [hw2]; exact Blk.new w1 _ _
  have x2 : Ext w1 w2 := by rw [hw2]; exact (Mod.refl _ w1).alloc _
  have R2 := R1.mod x2 (fun h => h) (fun _ _ _ h => h)
  have Z2 := Z1.mod x2 (fun h => h)
  have y02 : Mod (fun k => k = b) w w2 := y01.then_ x2 (fun _ _ h => h.elim)
  obtain ⟨g, hg⟩ : ∃ g, g = w1.heap.size := ⟨_, rfl⟩
  rw [← hg] at B2
  have hgb : g ≠ b := by omega
  have hgw : w.heap.size ≤ g := by have := y01.size; omega
  have hgz : w.heap.size ≠ g := by have := Z1.lt; omega
  have hn := num_any R2
  rw [hnn] at hn
  have hSg : ¬ S g := fun hs => by have := hS g hs; omega
  have hSz : ¬ S w.heap.size := fun hs => by have := hS _ hs; omega
  replace hw2 := Lib.hid hw2
  replace hg := Lib.hid hg
  clear R0 R1 Z1 B0 o1 f1 m1 x2 y01 x0 hnn
  go_upto_region 2 with fail
  rw [← hw2.out, ← hg.out]
  go_wp2_with fail
  refine hn.mono ?_
  rintro e w3 ⟨v3, rfl, R3, m3, -⟩
  have B3 := B2.mod m3 hgb
  have Z3 := Z2.mod m3 (by omega)
  have y03 : Mod (fun k => k = b) w w3 := y02.then_ m3 (fun _ _ h => h)
  clear B2 Z2 R2 m3 hn y02 cv
  have fz := Blk.frozen B3 2
  have ez : _ = some _ := Blk.cell B3 2
  have y4 := fun q => set1_mod w3 g 2 q
  have fin : ∀ (w5 : World) (v5 : Value) (s5 : St) (r5 : Ro), Hid (r = (r5, s5)) → Rd w5 b S v5 s5 → Blk w5 w.heap.size 82 #[sv [], sv [], .bool false] → Mod (fun k => k = b) w w5 → ∀ (K : World), K = (((w5.setCell ⟨w.heap.size, 0, none⟩ (sv r5.key)).setCell ⟨w.heap.size, 1, none⟩ (sv r5.val)).setCell ⟨w.heap.size, 2, none⟩ (.bool r5.del)) → Hid (∃ v', Rd K b S v' r.2 ∧ Mod (fun k => k = b) w K) := by
    intro w5 v5 s5 r5 e5 R5 Z5 y5 K hK
    have m9 := set3_mod w5 w.heap.size (sv r5.key) (sv r5.val) (.bool r5.del)
    rw [← hK] at m9
    exact Lib.hid ⟨v5, by rw [e5.out]; exact R5.mod m9 (by omega) (fun k _ hs e => by rw [e] at hs; exact hSz hs), y5.trans m9 (fun _ _ h => h) (fun k hk e => by omega)⟩
  by_cases h0 : 0 < n
  · have hb0 : decide (0 < n) = true := dtrue h0
    have hr2 := Lib.hid (hr.out.trans (if_pos h0))
    clear hr h0
    obtain ⟨w4, hw4⟩ : ∃ w4, w4 = w3.setCell ⟨g, 2, none⟩ (.bool true) := ⟨_, rfl⟩
    have m4 := y4 (.bool true)
    have B4 := B3.set_ 2 (.bool true)
    rw [← hw4] at m4 B4
    have R4 := R3.mod m4 (fun e => hgb e.symm) (fun k _ hs e => by rw [e] at hs; exact hSg hs)
    have Z4 := Z3.mod m4 hgz
    have y04 : Mod (fun k => k = b) w w4 := y03.trans m4 (fun _ _ h => h) (fun k hk e => by omega)
    have c0 : w4.cell? ⟨g, 0, none⟩ = some (sv key) := B4.cell 0
    have c1 : w4.cell? ⟨g, 1, none⟩ = some (sv []) := B4.cell 1
    have c2 : w4.cell? ⟨g, 2, none⟩ = some (.bool true) := B4.cell 2
    replace hw4 := Lib.hid hw4
    have f0 := Blk.frozen Z4 0
    have f1 := Blk.frozen Z4 1
    have f2 := Blk.frozen Z4 2
    have e0 : _ = some _ := Blk.cell Z4 0
    have e1 : _ = some _ := Blk.cell Z4 1
    have e2 : _ = some _ := Blk.cell Z4 2
    clear B3 Z3 R3 y03 y4
    go_upto_region 3 with fail
    rw [← hw4.out]
    go_wp2_with fail
    have R5 := fun p q r => ((Z4.set_ 0 p).set_ 1 q).set_ 2 r
    obtain ⟨v', RR, MM⟩ := (fin w4 v3 s2 ⟨key, [], true⟩ hr2 R4 Z4 y04 _ rfl).out
    refine bodyPost_ret (results_cell_row Try.results88 _ _ _ _ _ _ _ rfl (R5 _ _ _) Try.underlying82 rfl (by kernel_rfl)) rfl ?_
    exact ⟨v', by rw [hr2.out]; rfl, RR, MM⟩
  have hb0 : decide (0 < n) = false := dfalse h0
  have hr2 := Lib.hid (hr.out.trans (if_neg h0))
  clear hr h0
  obtain ⟨w4, hw4⟩ : ∃ w4, w4 = w3.setCell ⟨g, 2, none⟩ (.bool false) := ⟨_, rfl⟩
  have m4 := y4 (.bool false)
  have B4 := B3.set_ 2 (.bool false)
  rw [← hw4] at m4 B4
  have R4 := R3.mod m4 (fun e => hgb e.symm) (fun k _ hs e => by rw [e] at hs; exact hSg hs)
  have Z4 := Z3.mod m4 hgz
  have y04 : Mod (fun k => k = b) w w4 := y03.trans m4 (fun _ _ h => h) (fun k hk e => by omega)
  have c0 : w4.cell? ⟨g, 0, none⟩ = some (sv key) := B4.cell 0
  have c1 : w4.cell? ⟨g, 1, none⟩ = some (sv []) := B4.cell 1
  have c2 : w4.cell? ⟨g, 2, none⟩ = some (.bool false) := B4.cell 2
  replace hw4 := Lib.hid hw4
  have hb2 := bytes_any R4 (by unfold remS at hl t1; omega)
  have t3 := takeB_both s2
  generalize takeB s2 = kk at *
  obtain ⟨val, s5⟩ := kk
  dsimp only at *
  clear B3 Z3 R3 y03 y4
  go_upto_region 3 with fail
  rw [← hw4.out]
  go_wp2_with fail
  refine hb2.mono ?_
  rintro e w5 ⟨v5, y5, rfl, R5, o5, f5, m5⟩
  have cv := run_conv (P := Try.prog) Try.underlying30 Try.underlying5 Try.underlying9 o5.sl
  have B5 := B4.mod m5 hgb
  have Z5 := Z4.mod m5 (by omega)
  have y05 : Mod (fun k => k = b) w w5 := y04.then_ m5 (fun _ _ h => h)
  have fz := Blk.frozen B5 1
  have ez : _ = some _ := Blk.cell B5 1
  obtain ⟨w6, hw6⟩ : ∃ w6, w6 = w5.setCell ⟨g, 1, none⟩ (sv val) := ⟨_, rfl⟩
  have m6 := set1_mod w5 g 1 (sv val)
  have B6 := B5.set_ 1 (sv val)
  rw [← hw6] at m6 B6
  have R6 := R5.mod m6 (fun e => hgb e.symm) (fun k _ hs e => by rw [e] at hs; exact hSg hs)
  have Z6 := Z5.mod m6 hgz
  have y06 : Mod (fun k => k = b) w w6 := y05.trans m6 (fun _ _ h => h) (fun k hk e => by omega)
  have d0 : w6.cell? ⟨g, 0, none⟩ = some (sv key) := B6.cell 0
  have d1 : w6.cell? ⟨g, 1, none⟩ = some (sv val) := B6.cell 1
  have d2 : w6.cell? ⟨g, 2, none⟩ = some (.bool false) := B6.cell 2
  replace hw6 := Lib.hid hw6
  have f0 := Blk.frozen Z6 0
  have f1 := Blk.frozen Z6 1
  have f2 := Blk.frozen Z6 2
  have e0 : _ = some _ := Blk.cell Z6 0
  have e1 : _ = some _ := Blk.cell Z6 1
  have e2 : _ = some _ := Blk.cell Z6 2
  clear B4 Z4 R4 y04 B5 Z5 R5 y05 o5 f5 m5 m4 hb2 c0 c1 c2
  go_upto_region 5 with fail
  rw [← hw6.out]
  go_wp2_with fail
  have R7 := fun p q r => ((Z6.set_ 0 p).set_ 1 q).set_ 2 r
  obtain ⟨v', RR, MM⟩ := (fin w6 v5 s5 ⟨key, val, false⟩ hr2 R6 Z6 y06 _ rfl).out
  refine bodyPost_ret (results_cell_row Try.results88 _ _ _ _ _ _ _ rfl (R7 _ _ _) Try.underlying82 rfl (by kernel_rfl)) rfl ?_
  exact ⟨v', by rw [hr2.out]; rfl, RR, MM⟩
end Go.Proofs.Ytlfooppmdgddkaa
