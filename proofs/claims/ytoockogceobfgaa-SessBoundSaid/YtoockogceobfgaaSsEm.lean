/- sess: Decode of a bare unbind. -/
import Derived.Test.YtoockogceobfgaaMgUm
import Derived.Test.YtoockogceobfgaaMgKn
import Derived.Deep.MidRow
import Derived.Test.YtoockogceobfgaaMdCm
namespace Go.Proofs.Ytoockogceobfgaa
open Go.RowKit
set_option maxRecDepth 100000

theorem wpList_load_mid_on {P : Program} {ops : Array Oper} {rest : List Oper} {op : Oper} {a : Act} {w : World} {Q : Exit → Act → World → Prop} (hw : Region.wanted op (yielded ops a.tmps) = true) (ty : TypeId) (x : Operand) (ho : op.op = .load ty x)
    (b o : Nat) (hx : a.eval x = .pointer (some ⟨b, o, none⟩)) (cs : List Value) (d : TypeDesc) (hc : w.rangeAt b o cs)
    (hu : P.underlying ty = some d) (hd : d.isRow = true) (hi : (P.info? ty).map (·.size) = some cs.length)
    (h : wpList P ops Q rest (a.put op.dst (.agg cs.toArray)) w) : wpList P ops Q (op :: rest) a w :=
  wpList_step fun K hK => by rw [if_pos hw]; exact wp_load_mid ty x ho b o hx cs d hc hu hd hi (hK _ _ h)
theorem is2_any {w : World} : Calls Try.prog 73 #[.agg #[.int .i64 1, .int .i64 2, .string ⟨#[]⟩, .string ⟨#[]⟩, .int .i64 0, .int .i64 0, .int .i64 0, .string ⟨#[]⟩, .string ⟨#[]⟩, .slice none 0 0, .slice none 0 0, .slice none 0 0, .slice none 0 0, .slice none 0 0, .string ⟨#[]⟩, .bool false, .bool false, .string ⟨#[]⟩, .string ⟨#[]⟩, .string ⟨#[]⟩, .int .i64 0]] w fun e w' => e = .returned (.bool true) ∧ Ext w w' := by
  have h := Is25_any (n := 1) (w := w) (r := rq2) (A0 := none) (A1 := none) (A2 := none) (A3 := none) (A4 := none) (A0n := 0) (A0c := 0) (A1n := 0) (A1c := 0) (A2n := 0) (A2c := 0) (A3n := 0) (A3c := 0) (A4n := 0) (A4c := 0)
    ⟨fi0_in 0 w, ss_nil w _, Mds.nil w, Ats.nil25 w⟩ (by decide) (by decide) (fun _ _ => ⟨⟨by decide, by decide, by decide, (fun m hm => by cases hm), by decide, by decide, by decide, by decide, by decide, by decide⟩, (fun h => by cases h), by rw [rq2_req]; decide⟩)
  rw [rq2_may] at h
  exact h
set_option maxHeartbeats 8000000 in
theorem dec2_any {w : World} {S : Nat → Prop} {v : Value} (h : Bs w S v [48, 5, 2, 1, 1, 66, 0]) :
    Calls Try.prog 47 #[v] w fun e w' => e = .returned (.tuple #[.agg #[.int .i64 1, .int .i64 2, .string ⟨#[]⟩, .string ⟨#[]⟩, .int .i64 0, .int .i64 0, .int .i64 0, .string ⟨#[]⟩, .string ⟨#[]⟩, .slice none 0 0, .slice none 0 0, .slice none 0 0, .slice none 0 0, .slice none 0 0, .string ⟨#[]⟩, .bool false, .bool false, .string ⟨#[]⟩, .string ⟨#[]⟩, .string ⟨#[]⟩, .int .i64 0], .int .i64 0]) ∧ Ext w w' := by
  obtain ⟨w2, hw2⟩ : ∃ x, x = w.alloc (.cells z21 84) := ⟨_, rfl⟩
  obtain ⟨q, hq⟩ : ∃ q, q = w.heap.size := ⟨_, rfl⟩
  have x2 : Ext w w2 := by rw [hw2]; exact (Mod.refl _ w).alloc _
  have BQ : Blk w2 q 84 z21 := by rw [hw2, hq]; exact Blk.new w _ _
  have hn := bnext_any (h.ext x2) (by decide)
  have hqn : ¬ q < w.heap.size := by omega
  replace hw2 := Lib.hid hw2
  replace hq := Lib.hid hq
  obtain ⟨A, c, rfl, -, -, -, -⟩ := h.open_
  have hb : bnext ([48, 5, 2, 1, 1, 66, 0] : List UInt8) = (48, [2, 1, 1, 66, 0], [], 0) := by kernel_rfl
  rw [hb] at hn
  clear h hb
  go_enter Try.func47, Try.ntmps47
  go_upto_region 1 with fail
  rw [← hw2.out, ← hq.out]
  clear hw2 hq
  go_wp2_with fail
  refine hn.mono ?_
  rintro e w3 ⟨v1, v2, rfl, o1, o2, -, -, x3⟩
  have BQ3 := BQ.mod x3 (fun h => h)
  have z3 := ext_trans x2 x3
  clear hn BQ x2 x3
  obtain ⟨A2, c2, e2⟩ := o2.shape
  obtain ⟨A1, c1, e1⟩ := o1.shape
  simp only [List.length_map, List.length_nil, List.length_cons] at e1 e2
  subst e1
  subst e2
  have hm := mess2_any o1.sl
  clear o2 o1
  go_wp2_with fail
  refine hm.mono ?_
  rintro e w4 ⟨rfl, x4⟩
  have B4 := BQ3.mod x4 (fun h => h)
  have z4 := ext_trans z3 x4
  clear hm BQ3 z3 x4
  obtain ⟨w5, hw5⟩ : ∃ x, x = (w4.alloc (.cells z21 84)).setRow w4.heap.size #[.int .i64 1, .int .i64 2, .string ⟨#[]⟩, .string ⟨#[]⟩, .int .i64 0, .int .i64 0, .int .i64 0, .string ⟨#[]⟩, .string ⟨#[]⟩, .slice none 0 0, .slice none 0 0, .slice none 0 0, .slice none 0 0, .slice none 0 0, .string ⟨#[]⟩, .bool false, .bool false, .string ⟨#[]⟩, .string ⟨#[]⟩, .string ⟨#[]⟩, .int .i64 0] := ⟨_, rfl⟩
  obtain ⟨rb, hrb⟩ : ∃ x, x = w4.heap.size := ⟨_, rfl⟩
  have x5 : Ext w4 w5 := by rw [hw5]; exact ((Mod.refl (fun _ => False) w4).alloc _).setRow (fun h => absurd h (Nat.lt_irrefl _)) _
  have BN := Blk.new w4 84 z21
  have BR : Blk w5 rb 84 #[.int .i64 1, .int .i64 2, .string ⟨#[]⟩, .string ⟨#[]⟩, .int .i64 0, .int .i64 0, .int .i64 0, .string ⟨#[]⟩, .string ⟨#[]⟩, .slice none 0 0, .slice none 0 0, .slice none 0 0, .slice none 0 0, .slice none 0 0, .string ⟨#[]⟩, .bool false, .bool false, .string ⟨#[]⟩, .string ⟨#[]⟩, .string ⟨#[]⟩, .int .i64 0] := by rw [hw5, hrb]; exact BN.setRow _
  replace hw5 := Lib.hid hw5
  replace hrb := Lib.hid hrb
  go_upto_region 7 with ((with_reducible show wpList _ _ _ (⟨none, .store 84 _ _, _, _, _, _⟩ :: _) _ _); refine wpList_store_row rfl 84 (.tmp 8) (.tmp 32) rfl _ #[.int .i64 1, .int .i64 2, .string ⟨#[]⟩, .string ⟨#[]⟩, .int .i64 0, .int .i64 0, .int .i64 0, .string ⟨#[]⟩, .string ⟨#[]⟩, .slice none 0 0, .slice none 0 0, .slice none 0 0, .slice none 0 0, .slice none 0 0, .string ⟨#[]⟩, .bool false, .bool false, .string ⟨#[]⟩, .string ⟨#[]⟩, .string ⟨#[]⟩, .int .i64 0] rfl rfl _ _ BN size21 rfl (by simp [Value.oneCell']) ?_)
  rw [← hw5.out, ← hrb.out]
  clear hw5 hrb BN
  have B5 := B4.mod x5 (fun h => h)
  have z5 := ext_trans z4 x5
  have hrg := rowAt (l := [.int .i64 1, .int .i64 2, .string ⟨#[]⟩, .string ⟨#[]⟩, .int .i64 0, .int .i64 0, .int .i64 0, .string ⟨#[]⟩, .string ⟨#[]⟩, .slice none 0 0, .slice none 0 0, .slice none 0 0, .slice none 0 0, .slice none 0 0, .string ⟨#[]⟩, .bool false, .bool false, .string ⟨#[]⟩, .string ⟨#[]⟩, .string ⟨#[]⟩, .int .i64 0]) BR
  clear B4 z4 x5
  go_wp2_with ((with_reducible show wpList _ _ _ (⟨some 37, _, _, _, _, _⟩ :: _) _ _); refine wpList_load_mid_on (by rfl) 84 (.tmp 8) rfl rb 0 rfl [.int .i64 1, .int .i64 2, .string ⟨#[]⟩, .string ⟨#[]⟩, .int .i64 0, .int .i64 0, .int .i64 0, .string ⟨#[]⟩, .string ⟨#[]⟩, .slice none 0 0, .slice none 0 0, .slice none 0 0, .slice none 0 0, .slice none 0 0, .string ⟨#[]⟩, .bool false, .bool false, .string ⟨#[]⟩, .string ⟨#[]⟩, .string ⟨#[]⟩, .int .i64 0] _ hrg Try.underlying84 rfl (by kernel_rfl) ?_)
  refine is2_any.mono ?_
  rintro e w6 ⟨rfl, x6⟩
  have B6 := B5.mod x6 (fun h => h)
  have BR6 := BR.mod x6 (fun h => h)
  have z6 := ext_trans z5 x6
  clear hrg BR B5 z5 x6
  go_wp2_with (first | ((with_reducible show wpList _ _ _ (⟨some 42, _, _, _, _, _⟩ :: _) _ _); refine wpList_load_row rfl 84 (.tmp 8) rfl _ rfl _ _ _ _ BR6 Try.underlying84 rfl size21 ?_) | ((with_reducible show wpList _ _ _ (⟨none, .store 84 _ _, _, _, _, _⟩ :: _) _ _); refine wpList_store_row rfl 84 (.tmp 2) (.tmp 42) rfl _ #[.int .i64 1, .int .i64 2, .string ⟨#[]⟩, .string ⟨#[]⟩, .int .i64 0, .int .i64 0, .int .i64 0, .string ⟨#[]⟩, .string ⟨#[]⟩, .slice none 0 0, .slice none 0 0, .slice none 0 0, .slice none 0 0, .slice none 0 0, .string ⟨#[]⟩, .bool false, .bool false, .string ⟨#[]⟩, .string ⟨#[]⟩, .string ⟨#[]⟩, .int .i64 0] rfl rfl _ _ B6 size21 rfl (by simp [Value.oneCell']) ?_))
  refine bodyPost_ret (results_cell_row2 Try.results47 _ _ _ _ _ _ _ rfl (B6.setRow #[.int .i64 1, .int .i64 2, .string ⟨#[]⟩, .string ⟨#[]⟩, .int .i64 0, .int .i64 0, .int .i64 0, .string ⟨#[]⟩, .string ⟨#[]⟩, .slice none 0 0, .slice none 0 0, .slice none 0 0, .slice none 0 0, .slice none 0 0, .string ⟨#[]⟩, .bool false, .bool false, .string ⟨#[]⟩, .string ⟨#[]⟩, .string ⟨#[]⟩, .int .i64 0]) Try.underlying84 rfl (by exact size21)) rfl ?_
  exact ⟨rfl, z6.setRow (fun h => absurd h hqn) _⟩
end Go.Proofs.Ytoockogceobfgaa
namespace Go.Proofs.Ytoockogceobfgaa
open Go.RowKit
set_option maxRecDepth 100000

theorem del0_any {w : World} {A : Option Addr} {n c : Nat} (hc : n ≤ c) : Calls Try.prog 48 #[.slice A n c, .int .i64 0, .int .i64 0] w fun e w' => e = .returned (.slice A n c) ∧ w' = w := by
  have h0 : (0 : Int) ≤ (n : Int) := by omega
  have h1 : (n : Int) ≤ (c : Int) := by omega
  go_enter Try.func48, Try.ntmps48
  go_wp2_with fail
  go_ret
  exact ⟨rfl, rfl⟩
theorem take_nil {w : World} {v : Value} : Calls Try.prog 19 #[.pointer none, v] w fun e w' => e = .returned (.tuple #[.slice none 0 0, .bool false]) ∧ w' = w := by
  go_enter Try.func19, Try.ntmps19
  go_wp2_with fail
  refine sopen_nil.mono ?_
  rintro e w1 ⟨rfl, rfl⟩
  go_wp2_with fail
  go_ret2
  exact ⟨rfl, rfl⟩
theorem take_shut {w : World} {p : Nat} {v x y : Value} (B : Blk w p 86 #[.bool false, x, y]) : Calls Try.prog 19 #[.pointer (some ⟨p, 0, none⟩), v] w fun e w' => e = .returned (.tuple #[.slice none 0 0, .bool false]) ∧ w' = w := by
  go_enter Try.func19, Try.ntmps19
  go_wp2_with fail
  refine (sopen_any B).mono ?_
  rintro e w1 ⟨rfl, rfl⟩
  go_wp2_with fail
  go_ret2
  exact ⟨rfl, rfl⟩
set_option maxHeartbeats 8000000 in
/-- What is no message yet waits. -/
theorem take_first {w : World} {p : Nat} {S : Nat → Prop} {v y : Value} (B : Blk w p 86 #[.bool true, .slice none 0 0, y]) (h : Bs w S v [48, 5, 2, 1, 1]) :
    Calls Try.prog 19 #[.pointer (some ⟨p, 0, none⟩), v] w fun e w' => ∃ v', e = .returned (.tuple #[.slice none 0 0, .bool false]) ∧ Blk w' p 86 #[.bool true, v', y] ∧ Own w' 5 v' (([48, 5, 2, 1, 1] : List UInt8).map bv) ∧ Fresh w.heap.size v' ∧ Mod (fun k => k = p) w w' := by
  obtain ⟨A, c, rfl, -, -, -, -⟩ := id h.open_
  have hpl := B.lt
  have c1 : w.cell? ⟨p, 1, none⟩ = some (.slice none 0 0) := B.cell 1
  have hl : mframe [48, 5, 2, 1, 1] = (0, 0) := by kernel_rfl
  go_enter Try.func19, Try.ntmps19
  go_wp2_with fail
  refine (sopen_any B).mono ?_
  rintro e w1 ⟨rfl, rfl⟩
  go_wp2_with ((with_reducible show wpList _ _ _ (⟨some 20, _, _, _, _, _⟩ :: _) _ _); (refine wp_app tyB (Own.nil w1 5) h (bv_one _) rfl (.tmp 18) (.tmp 19) rfl rfl rfl ?hn ?hk))
  case hn => simp
  case hk =>
  intro v2 w2 k1 k2 k3
  have k1 : Own w2 5 v2 (([48, 5, 2, 1, 1] : List UInt8).map bv) := k1
  obtain ⟨A2, c2, e2⟩ := k1.shape
  replace e2 : v2 = .slice A2 5 c2 := e2
  subst e2
  have x2 : Ext w1 w2 := k2.mono (fun b _ hb => by simp [own, Value.ownBlock] at hb)
  have B2 := B.mod x2 (fun h => h)
  have f1 := B2.frozen 1
  have c1' : w2.cell? ⟨p, 1, none⟩ = some (.slice none 0 0) := B2.cell 1
  go_wp2_with fail
  have fr2 : Fresh w1.heap.size (.slice A2 5 c2) := k3.fresh (fresh_nil _ _ _) (Nat.le_refl _)
  obtain ⟨w3, hw3⟩ : ∃ x, x = w2.setCell ⟨p, 1, none⟩ (.slice A2 5 c2) := ⟨_, rfl⟩
  have x3 : Mod (fun k => k = p) w2 w3 := by rw [hw3]; exact (Mod.refl (fun k => k = p) w2).setCell (p := ⟨p, 1, none⟩) (fun _ => rfl) _
  have B3 : Blk w3 p 86 #[.bool true, .slice A2 5 c2, y] := by rw [hw3]; exact B2.set_ 1 (.slice A2 5 c2)
  have o3 := k1.mod x3 (fun b hb e => by have := fr2 b hb; have : b = p := e; omega)
  have z3 : Mod (fun k => k = p) w1 w3 := (x2.mono (fun _ _ h => h.elim) : Mod (fun k => k = p) w1 w2).then_ x3 (fun _ _ h => h)
  rw [← hw3]
  clear hw3 f1 c1' B2 k1 k2 k3 x2 x3 h B c1
  have hcap : 5 ≤ c2 := own_cap o3
  have d1 : w3.cell? ⟨p, 1, none⟩ = some (.slice A2 5 c2) := B3.cell 1
  have hfr := frame_any o3.sl (by decide)
  rw [hl] at hfr
  have h5 : (0 : Int) ≤ 5 := by omega
  have h5c : (5 : Int) ≤ (c2 : Int) := by omega
  clear hl
  go_loopw [6, 7] (fun s6 s7 wr => s6 = .slice none 0 0 ∧ s7 = .int .i64 0 ∧ wr = w3) (fun _ _ _ => 0)
  case atStart => exact ⟨rfl, rfl, rfl⟩
  case round =>
    obtain ⟨rfl, rfl, rfl⟩ := hrel
    go_wp2_with fail
    refine hfr.mono ?_
    rintro e w4 ⟨rfl, rfl⟩
    go_wp2_with fail
    refine (del0_any (by omega)).mono ?_
    rintro e w5 ⟨rfl, rfl⟩
    have f1 := B3.frozen 1
    go_wp2_with fail
    go_ret2
    have ym := (Mod.refl (fun k => k = p) w5).setCell (p := ⟨p, 1, none⟩) (fun _ => rfl) (.slice A2 5 c2)
    exact ⟨_, rfl, B3.set_ 1 _, o3.mod ym (fun b hb e => by have := fr2 b hb; have : b = p := e; omega), fr2, z3.then_ ym (fun _ _ h => h)⟩
abbrev rq2c : Unit → List Value := fun _ => [.int .i64 1, .int .i64 2, .string ⟨#[]⟩, .string ⟨#[]⟩, .int .i64 0, .int .i64 0, .int .i64 0, .string ⟨#[]⟩, .string ⟨#[]⟩, .slice none 0 0, .slice none 0 0, .slice none 0 0, .slice none 0 0, .slice none 0 0, .string ⟨#[]⟩, .bool false, .bool false, .string ⟨#[]⟩, .string ⟨#[]⟩, .string ⟨#[]⟩, .int .i64 0]
theorem rq2c_len (x : Unit) : (rq2c x).length = 21 := rfl
theorem rq2c_ok : ∀ u ∈ rq2c (), u.oneCell' = true := fun u hu => List.all_eq_true.1 (show (rq2c ()).all (·.oneCell') = true from rfl) u hu
theorem tyRq : SliceTyK Try.prog 47 84 (.agg z21) 21 304 := ⟨Try.underlying47, by kernel_rfl, rfl, by decide, by decide⟩
set_option maxHeartbeats 8000000 in
/-- The rest of an unbind: it comes, and ends the connection. -/
theorem take_last {w : World} {p : Nat} {S : Nat → Prop} {v vw y : Value} (B : Blk w p 86 #[.bool true, vw, y]) (hw : Own w 5 vw (([48, 5, 2, 1, 1] : List UInt8).map bv)) (hne : ¬ own vw p) (h : Bs w S v [66, 0]) :
    Calls Try.prog 19 #[.pointer (some ⟨p, 0, none⟩), v] w fun e w' => ∃ v', e = .returned (.tuple #[v', .bool false]) ∧ OwnR rq2c 21 w' 84 v' [()] ∧ Blk w' p 86 #[.bool false, .slice none 0 0, y] ∧ Mod (fun k => k = p ∨ own vw k) w w' := by
  obtain ⟨A, c, rfl, -, -, -, -⟩ := id h.open_
  obtain ⟨A1, c1, e1⟩ := hw.shape
  replace e1 : vw = .slice A1 5 c1 := e1
  subst e1
  have hpl := B.lt
  have d1 : w.cell? ⟨p, 1, none⟩ = some (.slice A1 5 c1) := B.cell 1
  have hl : mframe [48, 5, 2, 1, 1, 66, 0] = (7, 0) := by kernel_rfl
  go_enter Try.func19, Try.ntmps19
  go_wp2_with fail
  refine (sopen_any B).mono ?_
  rintro e w1 ⟨rfl, rfl⟩
  go_wp2_with ((with_reducible show wpList _ _ _ (⟨some 20, _, _, _, _, _⟩ :: _) _ _); (refine wp_app tyB hw h (bv_one _) rfl (.tmp 18) (.tmp 19) rfl rfl rfl ?hn ?hk))
  case hn => simp
  case hk =>
  intro v2 w2 k1 k2 k3
  have k1 : Own w2 5 v2 (([48, 5, 2, 1, 1, 66, 0] : List UInt8).map bv) := k1
  obtain ⟨A2, c2, e2⟩ := k1.shape
  replace e2 : v2 = .slice A2 7 c2 := e2
  subst e2
  have B2 := B.mod k2 hne
  have hne2 : ¬ own (.slice A2 7 c2) p := fun hp => hne (k3.sub hpl hp)
  have f1 := B2.frozen 1
  have c1' : w2.cell? ⟨p, 1, none⟩ = some (.slice A1 5 c1) := B2.cell 1
  go_wp2_with fail
  obtain ⟨w3, hw3⟩ : ∃ x, x = w2.setCell ⟨p, 1, none⟩ (.slice A2 7 c2) := ⟨_, rfl⟩
  have x3 : Mod (fun k => k = p) w2 w3 := by rw [hw3]; exact (Mod.refl (fun k => k = p) w2).setCell (p := ⟨p, 1, none⟩) (fun _ => rfl) _
  have B3 : Blk w3 p 86 #[.bool true, .slice A2 7 c2, y] := by rw [hw3]; exact B2.set_ 1 (.slice A2 7 c2)
  have o3 := k1.mod x3 (fun b hb e => by have : b = p := e; subst this; exact hne2 hb)
  have z3 : Mod (fun k => k = p ∨ own (.slice A1 5 c1) k) w1 w3 := (k2.mono (fun _ _ h => .inr h) : Mod (fun k => k = p ∨ own (.slice A1 5 c1) k) w1 w2).then_ x3 (fun _ _ h => .inl h)
  rw [← hw3]
  have hcap : 7 ≤ c2 := own_cap o3
  have d2 : w3.cell? ⟨p, 1, none⟩ = some (.slice A2 7 c2) := B3.cell 1
  have hfr := frame_any o3.sl (by decide)
  rw [hl] at hfr
  have hdec := fun {wx : World} (x : Ext w3 wx) => dec2_any (o3.mod x (fun _ _ h => h)).sl
  have h5 : (0 : Int) ≤ 7 := by omega
  have h5c : (7 : Int) ≤ (c2 : Int) := by omega
  clear hl hw3 f1 c1' B2 k1 k2 k3 x3 h B d1 hw hne
  go_loopw [6, 7] (fun s6 s7 wr => s6 = .slice none 0 0 ∧ s7 = .int .i64 0 ∧ wr = w3) (fun _ _ _ => 0)
  case atStart => exact ⟨rfl, rfl, rfl⟩
  case round =>
    obtain ⟨rfl, rfl, rfl⟩ := hrel
    go_wp2_with fail
    refine hfr.mono ?_
    rintro e w4 ⟨rfl, rfl⟩
    clear hfr
    go_upto_region 10 with fail
    obtain ⟨w5, hw5⟩ : ∃ x, x = w4.alloc (.cells z21 84) := ⟨_, rfl⟩
    obtain ⟨g, hg⟩ : ∃ x, x = w4.heap.size := ⟨_, rfl⟩
    have x5 : Ext w4 w5 := by rw [hw5]; exact (Mod.refl _ w4).alloc _
    have BG : Blk w5 g 84 z21 := by rw [hw5, hg]; exact Blk.new w4 _ _
    have hgp : g ≠ p := by have := B3.lt; omega
    replace hw5 := Lib.hid hw5
    replace hg := Lib.hid hg
    rw [← hw5.out, ← hg.out]
    have hgw : w1.heap.size ≤ g := by rw [hg.out]; exact z3.size
    clear hw5 hg
    have B5 := B3.mod x5 (fun h => h)
    have d3 : w5.cell? ⟨p, 1, none⟩ = some (.slice A2 7 c2) := B5.cell 1
    go_wp2_with fail
    refine (hdec x5).mono ?_
    rintro e w6 ⟨rfl, x6⟩
    have BG6 := BG.mod x6 (fun h => h)
    have B6 := B5.mod x6 (fun h => h)
    clear hdec d3 d2 BG B5
    obtain ⟨w7, hw7⟩ : ∃ x, x = w6.setRow g #[.int .i64 1, .int .i64 2, .string ⟨#[]⟩, .string ⟨#[]⟩, .int .i64 0, .int .i64 0, .int .i64 0, .string ⟨#[]⟩, .string ⟨#[]⟩, .slice none 0 0, .slice none 0 0, .slice none 0 0, .slice none 0 0, .slice none 0 0, .string ⟨#[]⟩, .bool false, .bool false, .string ⟨#[]⟩, .string ⟨#[]⟩, .string ⟨#[]⟩, .int .i64 0] := ⟨_, rfl⟩
    have x7 : Mod (fun k => k = g) w6 w7 := by rw [hw7]; exact (Mod.refl (fun k => k = g) w6).setRow (fun _ => rfl) _
    have BG7 : Blk w7 g 84 #[.int .i64 1, .int .i64 2, .string ⟨#[]⟩, .string ⟨#[]⟩, .int .i64 0, .int .i64 0, .int .i64 0, .string ⟨#[]⟩, .string ⟨#[]⟩, .slice none 0 0, .slice none 0 0, .slice none 0 0, .slice none 0 0, .slice none 0 0, .string ⟨#[]⟩, .bool false, .bool false, .string ⟨#[]⟩, .string ⟨#[]⟩, .string ⟨#[]⟩, .int .i64 0] := by rw [hw7]; exact BG6.setRow _
    have B7 := B6.mod x7 (fun h => hgp h.symm)
    replace hw7 := Lib.hid hw7
    go_upto_region 11 with ((with_reducible show wpList _ _ _ (⟨none, .store 84 _ _, _, _, _, _⟩ :: _) _ _); refine wpList_store_row rfl 84 (.tmp 10) (.tmp 52) rfl _ #[.int .i64 1, .int .i64 2, .string ⟨#[]⟩, .string ⟨#[]⟩, .int .i64 0, .int .i64 0, .int .i64 0, .string ⟨#[]⟩, .string ⟨#[]⟩, .slice none 0 0, .slice none 0 0, .slice none 0 0, .slice none 0 0, .slice none 0 0, .string ⟨#[]⟩, .bool false, .bool false, .string ⟨#[]⟩, .string ⟨#[]⟩, .string ⟨#[]⟩, .int .i64 0] rfl rfl _ _ BG6 size21 rfl (by simp [Value.oneCell']) ?_)
    rw [← hw7.out]
    clear hw7 BG6 B6
    go_wp2_with (first | ((with_reducible show wpList _ _ _ (⟨some 60, _, _, _, _, _⟩ :: _) _ _); refine wpList_load_row rfl 84 (.tmp 10) rfl _ rfl _ _ _ _ BG7 Try.underlying84 rfl size21 ?_) | ((with_reducible show wpList _ _ _ (⟨some 62, _, _, _, _, _⟩ :: _) _ _); refine wp_appR tyRq rq2c_len (x := ()) (OwnR.nil rq2c 21 w7 84) rfl rq2c_ok (by decide) rfl (.tmp 59) (.tmp 61) rfl rfl rfl ?hk))
    case hk =>
    intro v8 w8 k1 k2 k3
    replace k1 : OwnR rq2c 21 w8 84 v8 [()] := k1
    obtain ⟨A8, c8, rfl⟩ := k1.shape
    have x8 : Ext w7 w8 := k2.mono (fun b _ hb => by simp [own, Value.ownBlock] at hb)
    have fr8 : Fresh w7.heap.size (.slice A8 1 c8) := k3.fresh (fresh_nil _ _ _) (Nat.le_refl _)
    have g1 : w8.cell? ⟨g, 1, none⟩ = some (.int .i64 2) := (BG7.mod x8 (fun h => h)).cell 1
    have B8 := B7.mod x8 (fun h => h)
    have hp7 := B7.lt
    have z8 := (((z3.then_ x5 (fun _ _ h => h.elim)).then_ x6 (fun _ _ h => h.elim)).then_ x7 (fun b hb h => by have : b = g := h; omega)).then_ x8 (fun _ _ h => h.elim)
    clear k2 k3 BG7 B7 x5 x6 x7 x8 z3
    go_wp2_with fail
    refine (sclose_any B8).mono ?_
    rintro e w9 ⟨rfl, B9, m9⟩
    go_wp2_with fail
    go_ret2
    exact ⟨_, rfl, k1.mod m9 (fun b hb e => by have := fr8 b hb; have : b = p := e; omega), B9, z8.then_ m9 (fun _ _ h => .inl h)⟩
end Go.Proofs.Ytoockogceobfgaa
namespace Go.Proofs.Ytoockogceobfgaa
open Go.RowKit
set_option maxRecDepth 100000

set_option maxHeartbeats 8000000 in
theorem known26_any {w : World} : Calls Try.prog 21 #[] w fun e w' => e = .returned (.bool true) ∧ Ext w w' := by
  go_enter Try.func21, Try.ntmps21
  go_wp2_with fail
  refine snew_any.mono ?_
  rintro e w1 ⟨rfl, hw1⟩
  obtain ⟨p, hp⟩ : ∃ p, p = w.heap.size := ⟨_, rfl⟩
  have B1 : Blk w1 p 86 #[.bool true, .slice none 0 0, .slice none 0 0] := by rw [hw1, hp]; exact Blk.new w _ _
  have x1 : Ext w w1 := by rw [hw1]; exact (Mod.refl _ w).alloc _
  rw [← hp]
  clear hw1
  have hpw : w.heap.size ≤ p := Nat.le_of_eq hp.symm
  clear hp
  have xa : Ext w1 (w1.alloc (.cells #[.int .u8 48, .int .u8 5, .int .u8 2, .int .u8 1, .int .u8 1] 5)) := (Mod.refl _ w1).alloc _
  have l1 : Own (w1.alloc (.cells #[.int .u8 48, .int .u8 5, .int .u8 2, .int .u8 1, .int .u8 1] 5)) 5 (.slice (some ⟨w1.heap.size, 0, none⟩) 5 5) (([48, 5, 2, 1, 1] : List UInt8).map bv) := Own.lit w1 5 (([48, 5, 2, 1, 1] : List UInt8).map bv) (by simp [maxLen])
  have B2 := B1.mod xa (fun h => h)
  have hT1 := take_first B2 l1.sl
  have hp1 := B1.lt
  clear l1 B1
  go_wp2_with fail
  refine hT1.mono ?_
  rintro e w3 ⟨v3, rfl, B3, o3, fr3, m3⟩
  have z3 : Ext w w3 := (ext_trans x1 xa).trans m3 (fun _ _ h => h) (fun b hb h => by have : b = p := h; omega)
  have hs3 : w.heap.size ≤ w1.heap.size := x1.size
  have hfr : ∀ b, own v3 b → p < b ∧ w.heap.size ≤ b := fun b hb => by have := fr3 b hb; simp only [World.alloc, Array.size_push] at this; omega
  obtain ⟨A3, c3, e3⟩ := o3.shape
  replace e3 : v3 = .slice A3 5 c3 := e3
  subst e3
  have xb : Ext w3 (w3.alloc (.cells #[.int .u8 66, .int .u8 0] 5)) := (Mod.refl _ w3).alloc _
  have l2 : Own (w3.alloc (.cells #[.int .u8 66, .int .u8 0] 5)) 5 (.slice (some ⟨w3.heap.size, 0, none⟩) 2 2) (([66, 0] : List UInt8).map bv) := Own.lit w3 5 (([66, 0] : List UInt8).map bv) (by simp [maxLen])
  have hT2 := take_last (B3.mod xb (fun h => h)) (o3.mod xb (fun _ _ h => h)) (fun h => by have := hfr p h; omega) l2.sl
  clear hT1 l2 B3 o3 fr3 m3 x1 xa B2
  go_wp2_with fail
  refine hT2.mono ?_
  rintro e w5 ⟨v5, rfl, r5, B5, m5⟩
  have z5 : Ext w w5 := (ext_trans z3 xb).trans m5 (fun _ _ h => h) (fun b hb h => by rcases h with h | h; (have : b = p := h; omega); (have := hfr b h; omega))
  obtain ⟨A5, c5, e5, -, -, -, h6⟩ := r5.rc.open_ rq2c_len
  replace e5 : v5 = .slice A5 1 c5 := e5
  subst e5
  obtain ⟨ad, rfl, -, hc⟩ := h6 0 1 (.int .i64 2) (by simp) (by decide) rfl
  have hc' : w5.cell? ⟨ad.block, ad.off + 1, none⟩ = some (.int .i64 2) := hc
  clear hT2 z3 xb m5 h6 r5 hfr hc
  go_wp2_with fail
  refine (sopen_any B5).mono ?_
  rintro e w6 ⟨rfl, rfl⟩
  go_wp2_with fail
  go_ret
  exact ⟨rfl, z5⟩
set_option maxHeartbeats 8000000 in
theorem lnothing_any {w : World} {S : Nat → Prop} {v : Value} {l : List UInt8} (h : Bs w S v l) : Calls Try.prog 5 #[v] w fun e w' => e = .returned (.bool true) ∧ Ext w w' := by
  obtain ⟨A, c, rfl, -, -, -, -⟩ := id h.open_
  obtain ⟨n, hn⟩ : ∃ n, n = l.length := ⟨_, rfl⟩
  rw [← hn]
  clear hn h
  by_cases hb : 500 < n
  · have b1 : decide ((n : Int) > 500) = true := dtrue (by omega)
    have b2 : decide ((500 : Int) < (n : Int)) = true := dtrue (by omega)
    have b3 : decide (500 < n) = true := dtrue hb
    go_enter Try.func5, Try.ntmps5
    go_wp2_with fail
    go_ret
    exact ⟨rfl, Mod.refl _ _⟩
  have b1 : decide ((n : Int) > 500) = false := dfalse (by omega)
  have b2 : decide ((500 : Int) < (n : Int)) = false := dfalse (by omega)
  have b3 : decide (500 < n) = false := dfalse hb
  go_enter Try.func5, Try.ntmps5
  go_wp2_with fail
  refine take_nil.mono ?_
  rintro e w1 ⟨rfl, rfl⟩
  go_wp2_with fail
  refine sbind_nil.mono ?_
  rintro e w1 ⟨rfl, rfl⟩
  go_wp2_with fail
  refine sclose_nil.mono ?_
  rintro e w1 ⟨rfl, rfl⟩
  go_wp2_with fail
  refine swho_nil.mono ?_
  rintro e w1 ⟨rfl, rfl⟩
  go_wp2_with fail
  refine sopen_nil.mono ?_
  rintro e w1 ⟨rfl, rfl⟩
  go_wp2_with fail
  refine swait_nil.mono ?_
  rintro e w1 ⟨rfl, rfl⟩
  go_wp2_with fail
  refine known26_any.mono ?_
  rintro e w2 ⟨rfl, x2⟩
  go_wp2_with fail
  go_ret
  exact ⟨rfl, x2⟩
end Go.Proofs.Ytoockogceobfgaa
