/- schema: the table of types, and what an attribute is. -/
import Derived.Test.YtdfjldlfimbimaaDnE
import Derived.Test.YtdfjldlfimbimaaEvB
namespace Go.Proofs.Ytdfjldlfimbimaa
open Go.RowKit
set_option maxRecDepth 100000
def tyD : List (ByteArray × Value) := [(⟨#[111, 98, 106, 101, 99, 116, 99, 108, 97, 115, 115]⟩, .agg #[.int .i64 1, .bool false]),
  (⟨#[99, 110]⟩, .agg #[.int .i64 1, .bool false]),
  (⟨#[115, 110]⟩, .agg #[.int .i64 1, .bool false]),
  (⟨#[111, 117]⟩, .agg #[.int .i64 1, .bool false]),
  (⟨#[111]⟩, .agg #[.int .i64 1, .bool false]),
  (⟨#[100, 99]⟩, .agg #[.int .i64 1, .bool false]),
  (⟨#[117, 105, 100]⟩, .agg #[.int .i64 1, .bool false]),
  (⟨#[109, 97, 105, 108]⟩, .agg #[.int .i64 1, .bool false]),
  (⟨#[100, 101, 115, 99, 114, 105, 112, 116, 105, 111, 110]⟩, .agg #[.int .i64 1, .bool false]),
  (⟨#[116, 105, 116, 108, 101]⟩, .agg #[.int .i64 1, .bool false]),
  (⟨#[108]⟩, .agg #[.int .i64 1, .bool false]),
  (⟨#[116, 101, 108, 101, 112, 104, 111, 110, 101, 110, 117, 109, 98, 101, 114]⟩, .agg #[.int .i64 5, .bool false]),
  (⟨#[117, 105, 100, 110, 117, 109, 98, 101, 114]⟩, .agg #[.int .i64 2, .bool true]),
  (⟨#[103, 105, 100, 110, 117, 109, 98, 101, 114]⟩, .agg #[.int .i64 2, .bool true]),
  (⟨#[109, 101, 109, 98, 101, 114]⟩, .agg #[.int .i64 3, .bool false]),
  (⟨#[109, 97, 110, 97, 103, 101, 114]⟩, .agg #[.int .i64 3, .bool false]),
  (⟨#[115, 101, 101, 97, 108, 115, 111]⟩, .agg #[.int .i64 3, .bool false]),
  (⟨#[117, 115, 101, 114, 112, 97, 115, 115, 119, 111, 114, 100]⟩, .agg #[.int .i64 4, .bool false]),
  (⟨#[100, 105, 115, 112, 108, 97, 121, 110, 97, 109, 101]⟩, .agg #[.int .i64 1, .bool true])]
/-- The table while it is filled, beside the three kinds that it is filled with. -/
structure TkE (w0 w : World) (g : Nat) (D : List (ByteArray × Value)) : Prop where
  m : MpAt w (g + 1 + 1 + 1) D
  c10 : w.cell? ⟨g, 0, none⟩ = some (.int .i64 1)
  c11 : w.cell? ⟨g, 1, none⟩ = some (.bool false)
  c20 : w.cell? ⟨g + 1, 0, none⟩ = some (.int .i64 2)
  c21 : w.cell? ⟨g + 1, 1, none⟩ = some (.bool true)
  c30 : w.cell? ⟨g + 1 + 1, 0, none⟩ = some (.int .i64 3)
  c31 : w.cell? ⟨g + 1 + 1, 1, none⟩ = some (.bool false)
  x : Mod (fun k => k = g + 1 + 1 + 1) w0 w
theorem TkE.next {w0 w w' : World} {g : Nat} {D E : List (ByteArray × Value)} (h : TkE w0 w g D) (hM : MpAt w' (g + 1 + 1 + 1) E) (hm : Mod (fun k => k = g + 1 + 1 + 1) w w') : TkE w0 w' g E := by
  have hl := h.m.lt
  refine ⟨hM, ?_, ?_, ?_, ?_, ?_, ?_, h.x.then_ hm fun _ _ h => h⟩
  · rw [hm.cell (by show g < _; omega) (by show ¬ g = _; omega)]; exact h.c10
  · rw [hm.cell (by show g < _; omega) (by show ¬ g = _; omega)]; exact h.c11
  · rw [hm.cell (by show g + 1 < _; omega) (by show ¬ g + 1 = _; omega)]; exact h.c20
  · rw [hm.cell (by show g + 1 < _; omega) (by show ¬ g + 1 = _; omega)]; exact h.c21
  · rw [hm.cell (by show g + 1 + 1 < _; omega) (by show ¬ g + 1 + 1 = _; omega)]; exact h.c30
  · rw [hm.cell (by show g + 1 + 1 < _; omega) (by show ¬ g + 1 + 1 = _; omega)]; exact h.c31
section
variable {w : World}
set_option maxHeartbeats 4000000 in
theorem types_any : Calls Try.prog 19 #[] w fun e w' => ∃ b, e = .returned (.map (some b)) ∧ w.heap.size ≤ b ∧ MpAt w' b tyD ∧ Ext w w' := by
  have hmm := @run_makeMap Try.prog
  have hT0 : TkE ((((w.alloc (.cells #[.int .i64 1, .bool false] 51)).alloc (.cells #[.int .i64 2, .bool true] 51)).alloc (.cells #[.int .i64 3, .bool false] 51)).alloc (.map #[] 0)) ((((w.alloc (.cells #[.int .i64 1, .bool false] 51)).alloc (.cells #[.int .i64 2, .bool true] 51)).alloc (.cells #[.int .i64 3, .bool false] 51)).alloc (.map #[] 0)) w.heap.size [] := by
    obtain ⟨a, ha⟩ : ∃ a, a = w.alloc (.cells #[.int .i64 1, .bool false] 51) := ⟨_, rfl⟩
    have b1 : Blk a w.heap.size 51 #[.int .i64 1, .bool false] := by rw [ha]; exact Blk.new w _ _
    have s1 : a.heap.size = w.heap.size + 1 := by rw [ha]; simp
    rw [← ha]
    obtain ⟨c, hc⟩ : ∃ c, c = a.alloc (.cells #[.int .i64 2, .bool true] 51) := ⟨_, rfl⟩
    have b2' : Blk c (w.heap.size + 1) 51 #[.int .i64 2, .bool true] := by rw [hc, ← s1]; exact Blk.new a _ _
    have b1c : Blk c w.heap.size 51 #[.int .i64 1, .bool false] := by rw [hc]; exact b1.alloc _
    have s2 : c.heap.size = w.heap.size + 1 + 1 := by rw [hc, ← s1]; simp
    rw [← hc]
    obtain ⟨d, hd⟩ : ∃ d, d = c.alloc (.cells #[.int .i64 3, .bool false] 51) := ⟨_, rfl⟩
    have b3' : Blk d (w.heap.size + 1 + 1) 51 #[.int .i64 3, .bool false] := by rw [hd, ← s2]; exact Blk.new c _ _
    have b1d : Blk d w.heap.size 51 #[.int .i64 1, .bool false] := by rw [hd]; exact b1c.alloc _
    have b2d : Blk d (w.heap.size + 1) 51 #[.int .i64 2, .bool true] := by rw [hd]; exact b2'.alloc _
    have s3 : d.heap.size = w.heap.size + 1 + 1 + 1 := by rw [hd, ← s2]; simp
    rw [← hd]
    have hm0 := MpAt.new d
    rw [s3] at hm0
    refine ⟨hm0, (b1d.alloc _).cell 0, (b1d.alloc _).cell 1, (b2d.alloc _).cell 0, (b2d.alloc _).cell 1, (b3'.alloc _).cell 0, (b3'.alloc _).cell 1, Mod.refl _ _⟩
  have hx0 : Ext w ((((w.alloc (.cells #[.int .i64 1, .bool false] 51)).alloc (.cells #[.int .i64 2, .bool true] 51)).alloc (.cells #[.int .i64 3, .bool false] 51)).alloc (.map #[] 0)) := (((Mod.refl _ w).alloc _).alloc _).alloc _ |>.alloc _
  replace hx0 := Lib.hid hx0
  go_enter Try.func19, Try.ntmps19
  go_wp2_with ((with_reducible show wpList _ _ _ (⟨none, Op.insert _ _ _ _, _, _, _, _⟩ :: _) _ _); refine wp_ins hT0.m Try.underlying49 Try.underlying9 (by kernel_rfl) rfl _ _ _ rfl rfl rfl rfl ?_; intro w1 hM hm; replace hT0 := hT0.next hM hm; have c10 := hT0.c10; have c11 := hT0.c11; have c20 := hT0.c20; have c21 := hT0.c21; have c30 := hT0.c30; have c31 := hT0.c31; clear hM hm)
  go_ret
  exact ⟨_, rfl, by omega, hT0.m, Mod.trans hx0.out hT0.x (fun _ _ h => h) fun k hk h => by omega⟩
end
end Go.Proofs.Ytdfjldlfimbimaa
namespace Go.Proofs.Ytdfjldlfimbimaa
open Go.RowKit
set_option maxRecDepth 100000
theorem results_tmp4 {fn : Func} {t u v x : Tmp} (h : fn.results = #[.tmp t, .tmp u, .tmp v, .tmp x]) (tmps : Array Value) (P : Program) (w : World) :
    (results fn tmps).run P w = .ok (.tuple #[tmps.getD t undef, tmps.getD u undef, tmps.getD v undef, tmps.getD x undef]) w := by
  simp [results, h]
section
variable {w : World}
set_option maxHeartbeats 2000000 in
theorem stype_no {s : List UInt8} (hs : s.length ≤ 140737488351232) (h : lk ⟨(foldB s).toArray⟩ tyD = none) :
    Calls Try.prog 20 #[sv s] w fun e w' => e = .returned (.tuple #[.string ⟨#[]⟩, .int .i64 0, .bool false, .bool false]) ∧ Ext w w' := by
  have hf := fold_any (w := w) s hs
  have ht := fun wx : World => types_any (w := wx)
  go_enter Try.func20, Try.ntmps20
  go_wp2_with fail
  refine hf.mono ?_
  rintro e w1 ⟨rfl, x1⟩
  clear hf
  go_wp2_with fail
  refine (ht w1).mono ?_
  rintro e w2 ⟨b, rfl, hb, hM, x2⟩
  clear ht
  go_wp2_with ((with_reducible show wpList _ _ _ (⟨_, Op.lookup _ _ _ _, _, _, _, _⟩ :: _) _ _); refine wp_look hM Try.underlying49 Try.underlying9 Try.zeroValue51 rfl _ _ rfl rfl rfl ?_; rw [h]; simp only [Option.getD, Option.isSome])
  refine bodyPost_ret (results_tmp4 rfl _ _ _) rfl ?_
  exact ⟨rfl, ext_trans x1 (x2.alloc _)⟩
set_option maxHeartbeats 2000000 in
theorem stype_yes {s : List UInt8} {n : Int} {q : Bool} (hs : s.length ≤ 140737488351232) (h : lk ⟨(foldB s).toArray⟩ tyD = some (.agg #[.int .i64 n, .bool q])) :
    Calls Try.prog 20 #[sv s] w fun e w' => e = .returned (.tuple #[sv (foldB s), .int .i64 n, .bool q, .bool true]) ∧ Ext w w' := by
  have hf := fold_any (w := w) s hs
  have ht := fun wx : World => types_any (w := wx)
  go_enter Try.func20, Try.ntmps20
  go_wp2_with fail
  refine hf.mono ?_
  rintro e w1 ⟨rfl, x1⟩
  clear hf
  go_wp2_with fail
  refine (ht w1).mono ?_
  rintro e w2 ⟨b, rfl, hb, hM, x2⟩
  clear ht
  go_wp2_with ((with_reducible show wpList _ _ _ (⟨_, Op.lookup _ _ _ _, _, _, _, _⟩ :: _) _ _); refine wp_look hM Try.underlying49 Try.underlying9 Try.zeroValue51 rfl _ _ rfl rfl rfl ?_; rw [h]; simp only [Option.getD, Option.isSome])
  go_quiet (fail)
  go_wp2_with fail
  refine bodyPost_ret (results_tmp4 rfl _ _ _) rfl ?_
  exact ⟨rfl, (ext_trans x1 (x2.alloc _)).drewN _⟩
end
end Go.Proofs.Ytdfjldlfimbimaa
