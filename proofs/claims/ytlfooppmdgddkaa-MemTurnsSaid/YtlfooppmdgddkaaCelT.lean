/- block: the first cell with a key and a number, as the document has it. -/
import Derived.Test.YtlfooppmdgddkaaCelS
import Derived.Test.YtlfooppmdgddkaaCelH
namespace Go.Proofs.Ytlfooppmdgddkaa
open Go.RowKit
set_option maxRecDepth 100000

theorem results_cell_row2 {P : Program} {fn : Func} {p u : Tmp} {ty : TypeId} (h : fn.results = #[.cell p ty, .tmp u]) (tmps : Array Value) (w : World) (g : Nat) (t : TypeId) (cs : Array Value) (fr : Nat × Nat) (d : TypeDesc)
    (hp : tmps.getD p undef = .pointer (some ⟨g, 0, none⟩)) (hg : w.heap[g]? = some (.cells cs t fr))
    (hu : P.underlying ty = some d) (hd : (match d with | .struct _ | .array _ _ => true | _ => false) = true) (hi : (P.info? ty).map (·.size) = some cs.size) :
    (results fn tmps).run P w = .ok (.tuple #[.agg cs, tmps.getD u undef]) w := by
  have hp' : tmps[p]?.getD undef = .pointer (some ⟨g, 0, none⟩) := by simpa using hp
  rw [results_cell_tmp h]
  simp [hp', asAddr, Result.andThen, run_loadVar_row w g t ty cs fr d hg hu hd hi]
set_option maxHeartbeats 16000000 in
theorem rfirst_any {w : World} {S : Nat → Prop} {y : Value} {L : List Ce} {key : List UInt8} {seq : Int} (h : Cs w S y L) :
    Calls Try.prog 41 #[y, sv key, .int .i64 seq] w fun e w' => e = .returned (.tuple #[.agg (car (outS (firstC L key seq)).1), .bool (outS (firstC L key seq)).2]) ∧ Ext w w' := by
  obtain ⟨A, c, rfl, h1, h2, h3, h4⟩ := h.open_ cel_len
  clear h
  obtain ⟨R, hR1⟩ : ∃ R, R = outS (firstC L key seq) := ⟨_, rfl⟩
  rw [← hR1]
  replace hR1 := Lib.hid hR1
  have B1 : Blk (w.alloc (.cells #[sv [], sv [], .bool false, .int .i64 0] 23)) w.heap.size 23 #[sv [], sv [], .bool false, .int .i64 0] := Blk.new w _ _
  have x1 : Ext w (w.alloc (.cells #[sv [], sv [], .bool false, .int .i64 0] 23)) := (Mod.refl _ w).alloc _
  go_enter Try.func41, Try.ntmps41
  go_wp2_with fail
  generalize w.alloc (.cells #[sv [], sv [], .bool false, .int .i64 0] 23) = w1 at *
  replace h4 := h4.ext x1
  go_loopw [8] (fun i wr => ∃ k : Nat, k ≤ L.length ∧ i = .int .i64 k ∧ Hid (firstC (L.take k) key seq = none) ∧ Blk wr w.heap.size 23 #[sv [], sv [], .bool false, .int .i64 0] ∧ Ext w1 wr) (fun i _ => L.length - (intOf i).toNat)
  case atStart => exact ⟨0, Nat.zero_le _, rfl, Lib.hid rfl, B1, Mod.refl _ _⟩
  case round =>
    clear B1
    obtain ⟨k, hk, rfl, hs, B2, x2⟩ := hrel
    by_cases hlt : k < L.length
    case neg =>
      have hbl : decide ((k : Int) < (L.length : Int)) = false := dfalse (by omega)
      have hno : firstC L key seq = none := by have := hs.out; rwa [List.take_of_length_le (by omega)] at this
      have hR2 := Lib.hid (show R = (cz, false) by rw [hR1.out, hno]; rfl)
      clear hR1 hno hs
      have f0 := Blk.frozen B2 0
      have f1 := Blk.frozen B2 1
      have f2 := Blk.frozen B2 2
      have f3 := Blk.frozen B2 3
      have e0 : _ = some _ := Blk.cell B2 0
      have e1 : _ = some _ := Blk.cell B2 1
      have e2 : _ = some _ := Blk.cell B2 2
      have e3 : _ = some _ := Blk.cell B2 3
      go_wp2_with fail
      have R5 := fun p q r s => (((B2.set_ 0 p).set_ 1 q).set_ 2 r).set_ 3 s
      have m9 := fun p q r s => (set4_mod wr w.heap.size p q r s)
      refine bodyPost_ret (results_cell_row2 Try.results41 _ _ _ _ _ _ _ rfl (R5 _ _ _ _) Try.underlying23 rfl (by kernel_rfl)) rfl ?_
      exact ⟨by rw [hR2.out]; rfl, (ext_trans x1 x2).trans (m9 _ _ _ _) (fun _ _ h => h) (fun k hk h => by omega)⟩
    have hbl : decide ((k : Int) < (L.length : Int)) = true := dtrue (by omega)
    obtain ⟨ad, hA, hS, c0, c1, c2, c3⟩ := Cs.at_ (h4.ext x2) hlt
    subst hA
    have hsn : firstC (L.take (k + 1)) key seq = (if (L[k].key == key && decide (L[k].seq ≤ seq)) = true then some L[k] else none) := by
      unfold firstC at hs ⊢
      rw [List.take_succ_eq_append_getElem hlt, List.find?_append, hs.out, Option.none_or, List.find?_cons, List.find?_nil]
      cases (L[k].key == key && decide (L[k].seq ≤ seq)) <;> rfl
    have hfound : (L[k].key == key && decide (L[k].seq ≤ seq)) = true → firstC L key seq = some L[k] := fun h => by
      have h1 := hsn
      rw [if_pos h] at h1
      exact firstC_take h1
    have hi0 : (0 : Int) ≤ (k : Int) := by omega
    have hi1 : (k : Int) < (L.length : Int) := by omega
    generalize L[k] = x at *
    clear hs
    cases hq1 : (x.key == key)
    case false =>
      rw [hq1, Bool.false_and, if_neg (by decide)] at hsn
      replace hsn := Lib.hid hsn
      clear hfound
      go_wp2_with fail
      exact ⟨⟨k + 1, by omega, by go_num, hsn, B2, x2⟩, by simp [intOf] <;> omega⟩
    rw [hq1, Bool.true_and] at hsn hfound
    cases hq2 : decide (x.seq ≤ seq)
    case false =>
      rw [hq2, if_neg (by decide)] at hsn
      replace hsn := Lib.hid hsn
      clear hfound
      go_wp2_with fail
      exact ⟨⟨k + 1, by omega, by go_num, hsn, B2, x2⟩, by simp [intOf] <;> omega⟩
    have hR2 := Lib.hid (show R = (x, true) by rw [hR1.out, hfound hq2]; rfl)
    clear hfound hsn hR1
    have f0 := Blk.frozen B2 0
    have f1 := Blk.frozen B2 1
    have f2 := Blk.frozen B2 2
    have f3 := Blk.frozen B2 3
    have e0 : _ = some _ := Blk.cell B2 0
    have e1 : _ = some _ := Blk.cell B2 1
    have e2 : _ = some _ := Blk.cell B2 2
    have e3 : _ = some _ := Blk.cell B2 3
    go_wp2_with fail
    have R5 := fun p q r s => (((B2.set_ 0 p).set_ 1 q).set_ 2 r).set_ 3 s
    have m9 := fun p q r s => (set4_mod wr w.heap.size p q r s)
    refine bodyPost_ret (results_cell_row2 Try.results41 _ _ _ _ _ _ _ rfl (R5 _ _ _ _) Try.underlying23 rfl (by kernel_rfl)) rfl ?_
    exact ⟨by rw [hR2.out]; rfl, (ext_trans x1 x2).trans (m9 _ _ _ _) (fun _ _ h => h) (fun k hk h => by omega)⟩
end Go.Proofs.Ytlfooppmdgddkaa
