/- match: the law Subs. -/
import Derived.Test.YtopdkeaekgiejaaMtJ
namespace Go.Proofs.Ytopdkeaekgiejaa
open Go.RowKit
set_option maxRecDepth 100000

section
variable {w : World}
theorem sv_okT (L : List (List UInt8)) : ∀ u ∈ L.map sv, u.oneCell' = true := fun u hu => by
  obtain ⟨x, _, rfl⟩ := List.mem_map.1 hu
  rfl
set_option maxHeartbeats 8000000 in
theorem subs_any {v : Value} (k : Int) (s : List UInt8) {L : List (List UInt8)} (hv0 : Ss w (fun _ => True) v L) (hs : s.length ≤ 140737488351232) (hL : ∀ x ∈ L, x.length ≤ 140737488351232) (hn : L.length * 16 ≤ 140737488351232) (hm : Mxl w) :
    Calls Try.prog 7 #[.int .i64 k, sv s, v] w fun e w' => e = .returned (.bool true) ∧ Ext w w' := by
  have hv : Ss w (fun k => k < w.heap.size) v L := Sl.mono hv0 fun k hk _ => hk
  have hsh : ∃ A n c, v = .slice A n c := by obtain ⟨A, c, e, _⟩ := hv.open_; exact ⟨A, _, c, e⟩
  obtain ⟨A, n0, c, rfl⟩ := hsh
  have hkn := fun (wx : World) (q : Ext w wx) => known15_any (w := wx) (hm.ext q)
  have x0 : Ext w (w.alloc (.cells #[sv s] 9)) := (Mod.refl _ w).alloc _
  have o0 : Own (w.alloc (.cells #[sv s] 9)) 9 (.slice (some ⟨w.heap.size, 0, none⟩) 1 1) [sv s] := Own.lit w 9 [sv s] (by simp [maxLen])
  have f0 : Fresh w.heap.size (.slice (some ⟨w.heap.size, 0, none⟩) 1 1) := fun k hk => by have : w.heap.size = k := Option.some.inj hk; omega
  have hn1 : ([sv s].length + (L.map sv).length) * 16 ≤ 140737488355328 := by rw [List.length_map]; simp only [List.length_singleton]; omega
  have hn2 : (([] : List Value).length + (L.map sv).length) * 16 ≤ 140737488355328 := by rw [List.length_map]; simp only [List.length_nil]; omega
  have hb := fun b : Bool => (by cases b <;> rfl : (b == b) = true)
  replace hn1 := Lib.hid hn1
  replace hn2 := Lib.hid hn2
  clear hv0
  obtain ⟨R, hR⟩ : ∃ R, R = subM k s L := ⟨_, rfl⟩
  have hp1 := fun (wx : World) (u : Value) (q : Ext w wx) (hu : Ss wx (own u) u L) (h : hvy 1500 (s :: L)) => msub_any k s hu hs (fun x hx => Nat.le_trans (h x (by simp [hx])) (by omega)) (hm.ext q)
  have hp2 := fun (wx : World) (q : Ext w wx) (h : hvy 1500 (s :: L)) => rsub_any k s (hv.mod q fun _ _ _ h => h) (fun j hj => Nat.lt_of_lt_of_le hj q.size) hs (fun x hx => Nat.le_trans (h x (by simp [hx])) (by omega))
  rw [← hR] at hp1 hp2
  clear hR hm
  obtain ⟨r1, r2⟩ := R
  go_enter Try.func7, Try.ntmps7
  go_wp2_with ((with_reducible show wpList _ _ _ (⟨some 14, _, _, _, _, _⟩ :: _) _ _); refine wp_app tyS o0 (Sl.mod hv x0 fun _ _ _ h => h) (sv_okT L) rfl (.tmp 12) (.tmp 13) rfl rfl rfl hn1.out ?_; intro v1 w1 g1 g2 g3; have x1 := ext_app0 x0 f0 g2; obtain ⟨A1, n1, c1, hu1⟩ : ∃ A1 n1 c1, v1 = Value.slice A1 n1 c1 := (by obtain ⟨A1, c1, h⟩ := g1.shape; exact ⟨A1, _, c1, h⟩); subst hu1)
  have hh := heavy15_any (L := s :: L) (show Ss w1 _ _ (s :: L) from g1.sl) (fun x hx => by
    rcases List.mem_cons.1 hx with rfl | hx
    · exact hs
    · exact hL x hx)
  clear g1 g2 g3
  refine hh.mono ?_
  rintro e w2 ⟨q, rfl, hq, rfl⟩
  clear hh
  cases q with
  | true =>
    go_wp2_with fail
    go_ret
    exact ⟨rfl, x1⟩
  | false =>
  have hq2 := Lib.hid (hq rfl)
  clear hq
  have xE : Ext w (w2.alloc (.cells #[] 9)) := x1.alloc _
  have oE := Own.empty w2 9
  have fE : Fresh w2.heap.size (.slice (some ⟨w2.heap.size, 0, none⟩) 0 0) := fun k hk => by have : w2.heap.size = k := Option.some.inj hk; omega
  go_wp2_with ((with_reducible show wpList _ _ _ (⟨some 21, _, _, _, _, _⟩ :: _) _ _); refine wp_app tyS oE (Sl.mod hv xE fun _ _ _ h => h) (sv_okT L) rfl (.tmp 19) (.tmp 20) rfl rfl rfl hn2.out ?_; intro v3 w3 g1 g2 g3; have x3 := ext_app0 ((Mod.refl (fun _ => False) w2).alloc (.cells #[] 9)) fE g2; obtain ⟨A3, n3, c3, hu3⟩ : ∃ A3 n3 c3, v3 = Value.slice A3 n3 c3 := (by obtain ⟨A1, c1, h⟩ := g1.shape; exact ⟨A1, _, c1, h⟩); subst hu3)
  have y3 := ext_trans x1 x3
  have h1 := hp1 w3 _ y3 (show Ss w3 _ _ L from g1.sl) hq2.out
  clear hp1 g1 g2 g3 oE fE
  refine h1.mono ?_
  rintro e w4 ⟨rfl, x4⟩
  have y4 := ext_trans y3 x4
  have h2 := hp2 w4 y4 hq2.out
  clear h1 hp2
  go_wp2_with fail
  refine h2.mono ?_
  rintro e w5 ⟨rfl, x5⟩
  have y5 := ext_trans y4 x5
  have hk := hkn w5 y5
  clear h2 hkn hb
  cases r1 <;> cases r2
  all_goals
    go_wp2_with fail
    refine hk.mono ?_
    rintro e w6 ⟨rfl, x6⟩
    go_wp2_with fail
    go_ret
    exact ⟨rfl, ext_trans y5 x6⟩
end
end Go.Proofs.Ytopdkeaekgiejaa
