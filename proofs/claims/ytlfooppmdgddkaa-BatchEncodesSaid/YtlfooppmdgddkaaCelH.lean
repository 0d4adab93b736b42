/- block: Seek; what the law knows. -/
import Derived.Test.YtlfooppmdgddkaaCelG
namespace Go.Proofs.Ytlfooppmdgddkaa
open Go.RowKit
set_option maxRecDepth 100000

theorem results_cell_row3 {P : Program} {fn : Func} {p u v : Tmp} {ty : TypeId} (h : fn.results = #[.cell p ty, .tmp u, .tmp v]) (tmps : Array Value) (w : World) (g : Nat) (t : TypeId) (cs : Array Value) (fr : Nat × Nat) (d : TypeDesc)
    (hp : tmps.getD p undef = .pointer (some ⟨g, 0, none⟩)) (hg : w.heap[g]? = some (.cells cs t fr))
    (hu : P.underlying ty = some d) (hd : (match d with | .struct _ | .array _ _ => true | _ => false) = true) (hi : (P.info? ty).map (·.size) = some cs.size) :
    (results fn tmps).run P w = .ok (.tuple #[.agg cs, tmps.getD u undef, tmps.getD v undef]) w := by
  have hp' : tmps[p]?.getD undef = .pointer (some ⟨g, 0, none⟩) := by simpa using hp
  simp [results, h, hp', asAddr, Sem.run_bind, Result.andThen, run_loadVar_row w g t ty cs fr d hg hu hd hi]

abbrev cz : Ce := ⟨[], [], false, 0⟩
/-- The first cell with a key, whose number is not above another one. -/
def firstC (L : List Ce) (key : List UInt8) (seq : Int) : Option Ce := L.find? fun c => c.key == key && decide (c.seq ≤ seq)
theorem firstC_take {L : List Ce} {n : Nat} {key : List UInt8} {seq : Int} {c : Ce} (h : firstC (L.take n) key seq = some c) : firstC L key seq = some c := by
  have : firstC (L.take n ++ L.drop n) key seq = some c := by
    unfold firstC at h ⊢
    rw [List.find?_append, h]
    rfl
  rwa [List.take_append_drop] at this
def outS : Option Ce → Ce × Bool
  | some c => (c, true)
  | none => (cz, false)
/-- A key's newest cell, as bytes have it. -/
def seekB (bs key : List UInt8) (seq : Int) : (Ce × Bool) × Nat := if (decB bs).2 = 0 then (outS (firstC (decB bs).1 key seq), 0) else ((cz, false), (decB bs).2)

set_option maxHeartbeats 16000000 in
theorem seek_any {w : World} {T : Nat → Prop} {y : Value} {bs key : List UInt8} {seq : Int} (hy : Bs w T y bs) (hlen : bs.length ≤ 40000) :
    Calls Try.prog 32 #[y, sv key, .int .i64 seq] w fun e w' => e = .returned (.tuple #[.agg (car (seekB bs key seq).1.1), .bool (seekB bs key seq).1.2, .int .i64 (seekB bs key seq).2]) ∧ Ext w w' := by
  obtain ⟨R, hR⟩ : ∃ R, R = seekB bs key seq := ⟨_, rfl⟩
  rw [← hR]
  unfold seekB at hR
  obtain ⟨L, hL⟩ : ∃ L, L = (decB bs).1 := ⟨_, rfl⟩
  obtain ⟨n, hn⟩ : ∃ n, n = (decB bs).2 := ⟨_, rfl⟩
  rw [← hL, ← hn] at hR
  have hdec := fun (wx : World) (h : Bs wx T y bs) => decode_any h hlen
  rw [← hL, ← hn] at hdec
  clear hL hn
  replace hR := Lib.hid hR
  have B0 : Blk (w.alloc (.cells #[sv [], sv [], .bool false, .int .i64 0] 23)) w.heap.size 23 #[sv [], sv [], .bool false, .int .i64 0] := Blk.new w _ _
  have x0 : Ext w (w.alloc (.cells #[sv [], sv [], .bool false, .int .i64 0] 23)) := (Mod.refl _ w).alloc _
  go_enter Try.func32, Try.ntmps32
  go_wp2_with fail
  refine (hdec _ (hy.ext x0)).mono ?_
  rintro e w1 ⟨v1, rfl, o1, f1, x1⟩
  have B1 := B0.mod x1 (fun h => h)
  replace x1 := ext_trans x0 x1
  clear B0 x0 hdec f1
  by_cases h0 : n = 0
  case neg =>
    have hb1 : ((n : Int) != 0) = true := by rw [bne_iff_ne]; omega
    have hR1 := Lib.hid (hR.out.trans (if_neg h0))
    clear h0
    have f0 := Blk.frozen B1 0
    have f1 := Blk.frozen B1 1
    have f2 := Blk.frozen B1 2
    have f3 := Blk.frozen B1 3
    have e0 : _ = some _ := Blk.cell B1 0
    have e1 : _ = some _ := Blk.cell B1 1
    have e2 : _ = some _ := Blk.cell B1 2
    have e3 : _ = some _ := Blk.cell B1 3
    go_wp2_with fail
    have R5 := fun p q r s => (((B1.set_ 0 p).set_ 1 q).set_ 2 r).set_ 3 s
    have m9 := fun p q r s => (set4_mod w1 w.heap.size p q r s)
    refine bodyPost_ret (results_cell_row3 Try.results32 _ _ _ _ _ _ _ rfl (R5 _ _ _ _) Try.underlying23 rfl (by kernel_rfl)) rfl ?_
    exact ⟨by rw [hR1.out]; rfl, x1.trans (m9 _ _ _ _) (fun _ _ h => h) (fun k hk h => by omega)⟩
  have hb1 : ((n : Int) != 0) = false := by rw [h0]; rfl
  have hR1 := Lib.hid (hR.out.trans (if_pos h0))
  clear hR h0
  obtain ⟨A, c, hv, _, _, _, h4⟩ := o1.rc.open_ cel_len
  subst hv
  clear o1
  go_wp2_with fail
  go_loopw [24] (fun i wr => ∃ k : Nat, k ≤ L.length ∧ i = .int .i64 k ∧ Hid (firstC (L.take k) key seq = none) ∧ Blk wr w.heap.size 23 #[sv [], sv [], .bool false, .int .i64 0] ∧ Ext w1 wr) (fun i _ => L.length - (intOf i).toNat)
  case atStart => exact ⟨0, Nat.zero_le _, rfl, Lib.hid rfl, B1, Mod.refl _ _⟩
  case round =>
    clear B1
    obtain ⟨k, hk, rfl, hs, B2, x2⟩ := hrel
    by_cases hlt : k < L.length
    case neg =>
      have hbl : decide ((k : Int) < (L.length : Int)) = false := dfalse (by omega)
      have hno : firstC L key seq = none := by have := hs.out; rwa [List.take_of_length_le (by omega)] at this
      have hR2 := Lib.hid (show R = ((cz, false), 0) by rw [hR1.out, hno]; rfl)
      clear hR1 hno hs
      have f0 := Blk.frozen B2 0
      have f1 := Blk.frozen B2 1
      have f2 := Blk.frozen B2 2
      have f3 := Blk.frozen B2 3
      have e0 : _ = some _ := Blk.cell B2 0
      have e1 : _ = some _ := Blk.cell B2 1
      have e2 : _ = some _ := Blk.cell B2 2
      have e3 : _ = some _ := Blk.cell B2 3
      go_wp2_with fail
      have R5 := fun p q r s => (((B2.set_ 0 p).set_ 1 q).set_ 2 r).set_ 3 s
      have m9 := fun p q r s => (set4_mod wr w.heap.size p q r s)
      refine bodyPost_ret (results_cell_row3 Try.results32 _ _ _ _ _ _ _ rfl (R5 _ _ _ _) Try.underlying23 rfl (by kernel_rfl)) rfl ?_
      exact ⟨by rw [hR2.out]; rfl, (ext_trans x1 x2).trans (m9 _ _ _ _) (fun _ _ h => h) (fun k hk h => by omega)⟩
    have hbl : decide ((k : Int) < (L.length : Int)) = true := dtrue (by omega)
    obtain ⟨ad, hA, hS, c0, c1, c2, c3⟩ := Cs.at_ (h4.ext x2) hlt
    subst hA
    have hsn : firstC (L.take (k + 1)) key seq = (if (L[k].key == key && decide (L[k].seq ≤ seq)) = true then some L[k] else none) := by
      unfold firstC at hs ⊢
      rw [List.take_succ_eq_append_getElem hlt, List.find?_append, hs.out, Option.none_or, List.find?_cons, List.find?_nil]
      cases (L[k].key == key && decide (L[k].seq ≤ seq)) <;> rfl
    have hfound : (L[k].key == key && decide (L[k].seq ≤ seq)) = true → firstC L key seq = some L[k] := fun h => by
      have h1 := hsn
      rw [if_pos h] at h1
      exact firstC_take h1
    have hi0 : (0 : Int) ≤ (k : Int) := by omega
    have hi1 : (k : Int) < (L.length : Int) := by omega
    generalize L[k] = x at *
    have xb : Ext wr (wr.alloc (.cells (car x) 23)) := (Mod.refl _ wr).alloc _
    obtain ⟨d0, d1, d2, d3⟩ := boxed wr x
    obtain ⟨w3, hw3⟩ : ∃ w3, w3 = wr.alloc (.cells (car x) 23) := ⟨_, rfl⟩
    rw [← hw3] at xb d0 d1 d2 d3
    have B3 := B2.mod xb (fun h => h)
    have x3 := ext_trans x1 (ext_trans x2 xb)
    have x3' := ext_trans x2 xb
    replace hw3 := Lib.hid hw3
    clear hs xb
    cases hq1 : (x.key == key)
    case false =>
      rw [hq1, Bool.false_and, if_neg (by decide)] at hsn
      replace hsn := Lib.hid hsn
      clear hfound
      go_upto_region 7 with fail
      rw [← hw3.out]
      go_wp2_with fail
      exact ⟨⟨k + 1, by omega, by go_num, hsn, B3, x3'⟩, by simp [intOf] <;> omega⟩
    rw [hq1, Bool.true_and] at hsn hfound
    cases hq2 : decide (x.seq ≤ seq)
    case false =>
      rw [hq2, if_neg (by decide)] at hsn
      replace hsn := Lib.hid hsn
      clear hfound
      go_upto_region 7 with fail
      rw [← hw3.out]
      go_wp2_with fail
      exact ⟨⟨k + 1, by omega, by go_num, hsn, B3, x3'⟩, by simp [intOf] <;> omega⟩
    have hR2 := Lib.hid (show R = ((x, true), 0) by rw [hR1.out, hfound hq2]; rfl)
    clear hfound hsn hR1
    have f0 := Blk.frozen B3 0
    have f1 := Blk.frozen B3 1
    have f2 := Blk.frozen B3 2
    have f3 := Blk.frozen B3 3
    have e0 : _ = some _ := Blk.cell B3 0
    have e1 : _ = some _ := Blk.cell B3 1
    have e2 : _ = some _ := Blk.cell B3 2
    have e3 : _ = some _ := Blk.cell B3 3
    go_upto_region 7 with fail
    rw [← hw3.out]
    go_wp2_with fail
    have R5 := fun p q r s => (((B3.set_ 0 p).set_ 1 q).set_ 2 r).set_ 3 s
    have m9 := fun p q r s => (set4_mod w3 w.heap.size p q r s)
    refine bodyPost_ret (results_cell_row3 Try.results32 _ _ _ _ _ _ _ rfl (R5 _ _ _ _) Try.underlying23 rfl (by kernel_rfl)) rfl ?_
    exact ⟨by rw [hR2.out]; rfl, x3.trans (m9 _ _ _ _) (fun _ _ h => h) (fun k hk h => by omega)⟩

def kCells : List Ce := [⟨[97, 98], [120], false, 1⟩, ⟨[97, 99], [], true, 2⟩]
theorem known_rise : riseN kCells = 0 := by decide +kernel
theorem known_bytes : encR kCells = [0, 2, 97, 98, 1, 0, 1, 120, 1, 1, 99, 2, 1] := by decide +kernel
theorem known_seek : seekB [0, 2, 97, 98, 1, 0, 1, 120, 1, 1, 99, 2, 1] [97, 99] 5 = ((⟨[97, 99], [], true, 2⟩, true), 0) := by decide +kernel

set_option maxHeartbeats 8000000 in
theorem known7_any {w : World} : Calls Try.prog 26 #[] w fun e w' => e = .returned (.bool true) ∧ Ext w w' := by
  have x0 : Ext w (w.alloc (.cells #[sv [97, 98], sv [120], .bool false, .int .i64 1, sv [97, 99], sv [], .bool true, .int .i64 2] 23)) := (Mod.refl _ w).alloc _
  have hL : Cs (w.alloc (.cells #[sv [97, 98], sv [120], .bool false, .int .i64 1, sv [97, 99], sv [], .bool true, .int .i64 2] 23)) (fun b => b = w.heap.size) (.slice (some ⟨w.heap.size, 0, none⟩) 2 2) kCells :=
    ⟨_, _, rfl, Nat.le_refl _, by simp [maxLen], by simp, rfl, fun j u hu => ⟨_, rfl, rfl, by
      rw [add_lit, cell_of_row _ w.heap.size j _ 23 (0, 0) (heap_alloc_new w _)]
      have hu2 : ([sv [97, 98], sv [120], .bool false, .int .i64 1, sv [97, 99], sv [], .bool true, .int .i64 2] : List Value)[j]? = some u := hu
      simpa using hu2⟩⟩
  have hen := encode_any hL (by decide)
  rw [known_rise, known_bytes] at hen
  go_enter Try.func26, Try.ntmps26
  go_wp2_with fail
  refine hen.mono ?_
  rintro e w1 ⟨v1, rfl, o1, f1, x1⟩
  have hsk := seek_any (key := [97, 99]) (seq := 5) o1.sl (by decide)
  rw [known_seek] at hsk
  obtain ⟨A, c, rfl⟩ := o1.shape
  clear hen hL
  go_wp2_with fail
  refine hsk.mono ?_
  rintro e w2 ⟨rfl, x2⟩
  have hgu := fun wx a b => guardC wx .eql a b (car ⟨[97, 99], [], true, 2⟩) (car ⟨[97, 99], [], true, 2⟩)
  have heq : ∀ wx, (binOp .eql 23 (.agg (car ⟨[97, 99], [], true, 2⟩)) (.agg (car ⟨[97, 99], [], true, 2⟩))).run Try.prog wx = .ok (.bool true) wx := fun wx => by rw [eqC, dtrue rfl]
  go_wp2_with fail
  go_ret
  exact ⟨rfl, ext_trans x0 (ext_trans x1 (ext_trans x2 ((Mod.refl _ w2).alloc _)))⟩
end Go.Proofs.Ytlfooppmdgddkaa
