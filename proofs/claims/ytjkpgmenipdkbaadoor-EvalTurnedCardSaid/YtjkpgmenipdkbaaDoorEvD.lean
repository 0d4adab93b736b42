/- schema: what an attribute is. -/
import Derived.Test.YtjkpgmenipdkbaaDoorEvC
namespace Go.Proofs.YtjkpgmenipdkbaaDoor
open Go.RowKit
set_option maxRecDepth 100000
theorem results_tmp4 {fn : Func} {t u v x : Tmp} (h : fn.results = #[.tmp t, .tmp u, .tmp v, .tmp x]) (tmps : Array Value) (P : Program) (w : World) :
    (results fn tmps).run P w = .ok (.tuple #[tmps.getD t undef, tmps.getD u undef, tmps.getD v undef, tmps.getD x undef]) w := by
  simp [results, h]
section
variable {w : World}
set_option maxHeartbeats 2000000 in
theorem stype_no {s : List UInt8} (hs : s.length ≤ 140737488351232) (h : lk ⟨(foldB s).toArray⟩ tyD = none) :
    Calls Tryd.prog 23 #[sv s] w fun e w' => e = .returned (.tuple #[.string ⟨#[]⟩, .int .i64 0, .bool false, .bool false]) ∧ Ext w w' := by
  have hf := fold_any (w := w) s hs
  have ht := fun wx : World => types_any (w := wx)
  go_enter Tryd.func23, Tryd.ntmps23
  go_wp2_with fail
  refine hf.mono ?_
  rintro e w1 ⟨rfl, x1⟩
  clear hf
  go_wp2_with fail
  refine (ht w1).mono ?_
  rintro e w2 ⟨b, rfl, hb, hM, x2⟩
  clear ht
  go_wp2_with ((with_reducible show wpList _ _ _ (⟨_, Op.lookup _ _ _ _, _, _, _, _⟩ :: _) _ _); refine wp_look hM Tryd.underlying57 Tryd.underlying9 Tryd.zeroValue55 rfl _ _ rfl rfl rfl ?_; rw [h]; simp only [Option.getD, Option.isSome])
  refine bodyPost_ret (results_tmp4 rfl _ _ _) rfl ?_
  exact ⟨rfl, ext_trans x1 (x2.alloc _)⟩
set_option maxHeartbeats 2000000 in
theorem stype_yes {s : List UInt8} {n : Int} {q : Bool} (hs : s.length ≤ 140737488351232) (h : lk ⟨(foldB s).toArray⟩ tyD = some (.agg #[.int .i64 n, .bool q])) :
    Calls Tryd.prog 23 #[sv s] w fun e w' => e = .returned (.tuple #[sv (foldB s), .int .i64 n, .bool q, .bool true]) ∧ Ext w w' := by
  have hf := fold_any (w := w) s hs
  have ht := fun wx : World => types_any (w := wx)
  go_enter Tryd.func23, Tryd.ntmps23
  go_wp2_with fail
  refine hf.mono ?_
  rintro e w1 ⟨rfl, x1⟩
  clear hf
  go_wp2_with fail
  refine (ht w1).mono ?_
  rintro e w2 ⟨b, rfl, hb, hM, x2⟩
  clear ht
  go_wp2_with ((with_reducible show wpList _ _ _ (⟨_, Op.lookup _ _ _ _, _, _, _, _⟩ :: _) _ _); refine wp_look hM Tryd.underlying57 Tryd.underlying9 Tryd.zeroValue55 rfl _ _ rfl rfl rfl ?_; rw [h]; simp only [Option.getD, Option.isSome])
  go_quiet (fail)
  go_wp2_with fail
  refine bodyPost_ret (results_tmp4 rfl _ _ _) rfl ?_
  exact ⟨rfl, (ext_trans x1 (x2.alloc _)).drewN _⟩
end
end Go.Proofs.YtjkpgmenipdkbaaDoor
