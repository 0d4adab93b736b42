/- ber: the document's Next. -/
import Derived.Test.YtcffefadagfdcaaBerR
import Derived.Test.YtcffefadagfdcaaRegA
import Derived.Deep.DeepCutAuto
import Derived.Deep.RegionHeld3
import Derived.BigQuiet
import Derived.Deep.QuietTactic
namespace Go.Proofs.Ytcffefadagfdcaa
open Go.RowKit
set_option maxRecDepth 100000

/-- append, of an operation alone. -/
theorem op_app {P : Program} {w : World} {t e : TypeId} {z : Value} {bytes : Nat} {S : Nat → Prop} {o : Oper} {a : Act} {K : Act → World → Prop} {Q : Exit → Act → World → Prop} (hT : SliceTy P t e z bytes) {v y : Value} {xs news : List Value} (hown : Own w e v xs) (hr : Sl w S y news) (h1 : ∀ u ∈ news, u.oneCell' = true)
    (s x : Operand) (d : Tmp) (hd : o.dst = some d) (ho : o.op = .call { callee := .builtin .append, args := #[s, x], argTypes := #[t, t] }) (hs : a.eval s = v) (hx : a.eval x = y)
    (hn : (xs.length + news.length) * bytes ≤ 140737488355328)
    (h : ∀ v' w', Own w' e v' (xs ++ news) → Mod (own v) w w' → Next w.heap.size v v' → K (a.put (some d) v') w') : Oper.wp P o a w K Q := by
  obtain ⟨v', w', hrun, h2, h3, h4⟩ := run_app (P := P) hT o.type hown hr h1 hn
  unfold Oper.wp execOp
  simp only [ho, resolve, invoke, builtin, Sem.run_bind, Sem.run_pure, Result.andThen_ok, List.map_toArray, List.map_cons, List.map_nil, hs, hx, hrun]
  simp only [Oper.upon, hd]
  exact h v' w' h2 h3 h4

theorem app_sep {w w' : World} {X X' Y : Value} {ys : List Value} (hY : Own w 5 Y ys) (hd : ∀ k, own X k → own Y k → False) (hm : Mod (own X) w w') (hnx : Next w.heap.size X X') : Own w' 5 Y ys ∧ ∀ k, own X' k → own Y k → False := by
  refine ⟨hY.mod hm (fun k hk hX => hd k hX hk), fun k h1 h2 => ?_⟩
  rcases hnx with h | h
  · exact hd k (by show X.ownBlock = some k; rw [← h]; exact h1) h2
  · have := h k h1; have := hY.lt h2; omega

set_option maxHeartbeats 4000000 in
theorem rnext_try {w : World} {S : Nat → Prop} {ad : Addr} {c : Nat} {l bd rs : List UInt8} (hl : l.length ≤ 100000) (q n : Nat) (hq8 : q < 128) (hi1 : 1 < l.length) (zz : Int) (b0 : Nat) (hb1' : (zz == 31) = false) (hand : bits .and .u8 (b0 : Int) 31 = zz) (hc0 : w.cell? ad = some (.int .u8 (b0 : Int))) (hc1 : w.cell? ⟨ad.block, ad.off + 1, none⟩ = some (.int .u8 (q : Int))) (hc : l.length ≤ c) (hcm : c ≤ 9223372036854775807) (hn : (2 : Int) + (q : Int) = (n : Int)) (hnl : n ≤ l.length)
    (hb1 : Bs w.drew S (.slice (if c = 2 then some ad else some ⟨ad.block, ad.off + 2, none⟩) (n - 2) (c - 2)) bd) (hb2 : Bs w.drew S (.slice (if c = n then some ad else some (ad.add n)) (l.length - n) (c - n)) rs) (hbl : bd.length ≤ 1000000) (hrl : rs.length ≤ 1000000) :
    Calls Try.prog 23 #[.slice (some ad) l.length c] w fun e w' => ∃ v1 v2, e = .returned (.tuple #[.int .u8 (b0 : Int), v1, v2, .int .i64 0]) ∧ Own w' 5 v1 (bd.map bv) ∧ Own w' 5 v2 (rs.map bv) ∧ Fresh w.heap.size v1 ∧ Fresh w.heap.size v2 ∧ Ext w w' := by
  have hi0 : 0 < l.length := by omega
  have hi1' : 1 < (l.length : Int) := by omega
  have x0 : (2 : Int) ≤ (n : Int) := by omega
  have x1 : (n : Int) ≤ (l.length : Int) := by omega
  have x2 : (n : Int) ≤ (c : Int) := by omega
  have x3 : (l.length : Int) ≤ (c : Int) := by omega
  have x5 : (0 : Int) ≤ (n : Int) := by omega
  have x6 : IntKind.i64.wrap (n : Int) = (n : Int) := by rw [IntKind.wrap_i64]; omega
  have hb2' : decide ((l.length : Int) < 2) = false := by rw [decide_eq_false_iff_not]; omega
  have hb3 : decide ((l.length : Int) - 2 < (q : Int)) = false := by rw [decide_eq_false_iff_not]; omega
  have hx : ∀ wx, Ext w.drew wx → wx.cell? ad = some (.int .u8 (b0 : Int)) := fun wx hx => (hx.cell (lt_of_cell (w := w) hc0) (fun h => h)).trans hc0
  have hn1 : (([] : List Value).length + (bd.map bv).length) * 1 ≤ 140737488355328 := by rw [List.length_map]; simp; omega
  have hn2 : (([] : List Value).length + (rs.map bv).length) * 1 ≤ 140737488355328 := by rw [List.length_map]; simp; omega
  replace hn1 := Lib.hid hn1
  replace hn2 := Lib.hid hn2
  have hx00 : Ext w.drew w.drew := Mod.refl _ _
  go_enter Try.func23, Try.ntmps23
  go_upto_region 24 with fail
  go_cut [2, 3, 4, 5] (fun s2 s3 s4 s5 wx => s2 = .int .u8 (b0 : Int) ∧ s5 = .int .i64 0 ∧ Own wx 5 s3 (bd.map bv) ∧ Own wx 5 s4 (rs.map bv) ∧ Fresh w.heap.size s3 ∧ Fresh w.heap.size s4 ∧ Ext w wx)
  case first =>
    have hc0d : w.drew.cell? ad = some (.int .u8 (b0 : Int)) := hc0
    refine wp_region_held_drew (S := fun w' => w'.cell? ad = some (.int .u8 (b0 : Int))) (by kernel_rfl) hc0d (fun hH => ?_)
    clear hH
    have hxd : Ext w w.drew := (Mod.refl _ w).drew
    generalize w.drew = wd at *
    (refine wpAnyH_take (i := 0) (oi := ⟨_, _, _, _, _, _⟩) (v := ?tv1) rfl (by kernel_rfl) (by kernel_rfl) (by kernel_rfl) (fun _ _ _ h => h) (Or.inl ⟨by rfl, ?hy1⟩) (by assumption) ?rs1; (case hy1 => (intro wx hSw; (try dsimp only at hSw); go_simp; try with_reducible rfl)); try simp only [Act.put, List.setIfInBounds_toArray, List.set_cons_zero, List.set_cons_succ])
    (refine wpAnyH_take (i := 1) (oi := ⟨_, _, _, _, _, _⟩) (v := ?tv2) rfl (by kernel_rfl) (by kernel_rfl) (by kernel_rfl) (fun _ _ _ h => h) (Or.inl ⟨by rfl, ?hy2⟩) (by assumption) ?rs2; (case hy2 => (intro wx hSw; (try dsimp only at hSw); go_simp; try with_reducible rfl)); try simp only [Act.put, List.setIfInBounds_toArray, List.set_cons_zero, List.set_cons_succ])
    (refine wpAnyH_take (i := 2) (oi := ⟨_, _, _, _, _, _⟩) (v := ?tv3) rfl (by kernel_rfl) (by kernel_rfl) (by kernel_rfl) (fun _ _ _ h => h) (Or.inl ⟨by rfl, ?hy3⟩) (by assumption) ?rs3; (case hy3 => (intro wx hSw; (try dsimp only at hSw); go_simp; try with_reducible rfl)); try simp only [Act.put, List.setIfInBounds_toArray, List.set_cons_zero, List.set_cons_succ])
    (refine wpAnyH_take (i := 4) (oi := ⟨_, _, _, _, _, _⟩) (v := ?tv4) rfl (by kernel_rfl) (by kernel_rfl) (by kernel_rfl) (fun _ _ _ h => h) (Or.inl ⟨by rfl, ?hy4⟩) (by assumption) ?rs4; (case hy4 => (intro wx hSw; (try dsimp only at hSw); go_simp; try with_reducible rfl)); try simp only [Act.put, List.setIfInBounds_toArray, List.set_cons_zero, List.set_cons_succ])
    (refine wpAnyH_take (i := 5) (oi := ⟨_, _, _, _, _, _⟩) (v := ?tv5) rfl (by kernel_rfl) (by kernel_rfl) (by kernel_rfl) (fun _ _ _ h => h) (Or.inl ⟨by rfl, ?hy5⟩) (by assumption) ?rs5; (case hy5 => (intro wx hSw; (try dsimp only at hSw); go_simp; try with_reducible rfl)); try simp only [Act.put, List.setIfInBounds_toArray, List.set_cons_zero, List.set_cons_succ])
    (refine wpAnyH_take (i := 6) (oi := ⟨_, _, _, _, _, _⟩) (v := ?tv6) rfl (by kernel_rfl) (by kernel_rfl) (by kernel_rfl) (fun _ _ _ h => h) (Or.inl ⟨by rfl, ?hy6⟩) (by assumption) ?rs6; (case hy6 => (intro wx hSw; (try dsimp only at hSw); go_simp; try with_reducible rfl)); try simp only [Act.put, List.setIfInBounds_toArray, List.set_cons_zero, List.set_cons_succ])
    (refine wpAnyH_take (i := 7) (oi := ⟨_, _, _, _, _, _⟩) (v := ?tv7) rfl (by kernel_rfl) (by kernel_rfl) (by kernel_rfl) (fun _ _ _ h => h) (Or.inl ⟨by rfl, ?hy7⟩) (by assumption) ?rs7; (case hy7 => (intro wx hSw; (try dsimp only at hSw); go_simp; try with_reducible rfl)); try simp only [Act.put, List.setIfInBounds_toArray, List.set_cons_zero, List.set_cons_succ])
    (refine wpAnyH_take (i := 8) (oi := ⟨_, _, _, _, _, _⟩) (v := ?tv8) rfl (by kernel_rfl) (by kernel_rfl) (by kernel_rfl) (fun _ _ _ h => h) (Or.inl ⟨by rfl, ?hy8⟩) (by assumption) ?rs8; (case hy8 => (intro wx hSw; (try dsimp only at hSw); go_simp; try with_reducible rfl)); try simp only [Act.put, List.setIfInBounds_toArray, List.set_cons_zero, List.set_cons_succ])
    (refine wpAnyH_take (i := 9) (oi := ⟨_, _, _, _, _, _⟩) (v := ?tv9) rfl (by kernel_rfl) (by kernel_rfl) (by kernel_rfl) (fun _ _ _ h => h) (Or.inl ⟨by rfl, ?hy9⟩) (by assumption) ?rs9; (case hy9 => (intro wx hSw; (try dsimp only at hSw); go_simp; try with_reducible rfl)); try simp only [Act.put, List.setIfInBounds_toArray, List.set_cons_zero, List.set_cons_succ])
    (refine wpAnyH_take (i := 12) (oi := ⟨_, _, _, _, _, _⟩) (v := ?tv10) rfl (by kernel_rfl) (by kernel_rfl) (by kernel_rfl) (fun _ _ _ h => h) (Or.inl ⟨by rfl, ?hy10⟩) (by assumption) ?rs10; (case hy10 => (intro wx hSw; (try dsimp only at hSw); go_simp; try with_reducible rfl)); try simp only [Act.put, List.setIfInBounds_toArray, List.set_cons_zero, List.set_cons_succ])
    (refine wpAnyH_take (i := 13) (oi := ⟨_, _, _, _, _, _⟩) (v := ?tv11) rfl (by kernel_rfl) (by kernel_rfl) (by kernel_rfl) (fun _ _ _ h => h) (Or.inl ⟨by rfl, ?hy11⟩) (by assumption) ?rs11; (case hy11 => (intro wx hSw; (try dsimp only at hSw); go_simp; try with_reducible rfl)); try simp only [Act.put, List.setIfInBounds_toArray, List.set_cons_zero, List.set_cons_succ])
    (refine wpAnyH_take (i := 14) (oi := ⟨_, _, _, _, _, _⟩) (v := ?tv12) rfl (by kernel_rfl) (by kernel_rfl) (by kernel_rfl) (fun _ _ _ h => h) (Or.inl ⟨by rfl, ?hy12⟩) (by assumption) ?rs12; (case hy12 => (intro wx hSw; (try dsimp only at hSw); go_simp; try with_reducible rfl)); try simp only [Act.put, List.setIfInBounds_toArray, List.set_cons_zero, List.set_cons_succ])
    (refine wpAnyH_take (i := 15) (oi := ⟨_, _, _, _, _, _⟩) (v := ?tv13) rfl (by kernel_rfl) (by kernel_rfl) (by kernel_rfl) (fun _ _ _ h => h) (Or.inl ⟨by rfl, ?hy13⟩) (by assumption) ?rs13; (case hy13 => (intro wx hSw; (try dsimp only at hSw); go_simp; try with_reducible rfl)); try simp only [Act.put, List.setIfInBounds_toArray, List.set_cons_zero, List.set_cons_succ])
    (refine wpAnyH_take (i := 16) (oi := ⟨_, _, _, _, _, _⟩) (v := ?tv14) rfl (by kernel_rfl) (by kernel_rfl) (by kernel_rfl) (fun _ _ _ h => h) (Or.inl ⟨by rfl, ?hy14⟩) (by assumption) ?rs14; (case hy14 => (intro wx hSw; (try dsimp only at hSw); go_simp; try with_reducible rfl)); try simp only [Act.put, List.setIfInBounds_toArray, List.set_cons_zero, List.set_cons_succ])
    generalize (Value.slice (if c = 2 then some ad else some ⟨ad.block, ad.off + 2, none⟩) (n - 2) (c - 2)) = V1 at *
    generalize (Value.slice (if c = n then some ad else some (ad.add n)) (l.length - n) (c - n)) = V2 at *
    refine wpAnyH_ready (rs := [3, 11]) (by kernel_rfl) (by simp) ?_
    refine AllReadyH.cons rfl (fun K hK => ?_) (AllReadyH.cons rfl (fun K hK => ?_) (AllReadyH.nil))
    · go_simp
      refine hK.out _ _ (hx _ (Mod.alloc hx00 _)) (fun hH => ?_)
      clear hK K hH
      try simp only [Act.put, List.setIfInBounds_toArray, List.set_cons_zero, List.set_cons_succ]
      have hx101 : Ext wd (wd.alloc (.cells #[] 5)) := Mod.alloc hx00 _
      have pe1 := Own.empty wd 5
      generalize (wd.alloc (.cells #[] 5)) = w101 at *
      refine wpAnyH_ready (rs := [10, 11]) (by kernel_rfl) (by simp) ?_
      refine AllReadyH.cons rfl (fun K hK => ?_) (AllReadyH.cons rfl (fun K hK => ?_) (AllReadyH.nil))
      · rw [if_pos (by rfl)]
        refine op_app tyB pe1 (hb1.ext hx101) (bv_one _) (.tmp 67) (.tmp 73) 74 rfl rfl rfl rfl hn1.out ?_
        intro va2 w102 qa2 qb2 qc2
        rw [List.nil_append] at qa2
        have hx102 : Ext wd w102 := Mod.trans hx101 qb2 (fun _ _ h => h) (fun k hk h => Nat.lt_irrefl _ (Nat.lt_of_lt_of_le hk (by have h9 : wd.heap.size = k := Option.some.inj h; rw [← h9]; exact (hx00).size)))
        have fe2 : Fresh wd.heap.size (.slice (some ⟨wd.heap.size, 0, none⟩) 0 0) := fun k h => by have h9 : wd.heap.size = k := Option.some.inj h; rw [← h9]; exact (hx00).size
        have ff2 := (qc2.fresh fe2 (hx101).size).mono hxd.size
        refine hK.out _ _ (hx _ hx102) (fun hH => ?_)
        clear hK K hH
        try simp only [Act.put, List.setIfInBounds_toArray, List.set_cons_zero, List.set_cons_succ]
        refine wpAnyH_ready (rs := [11]) (by kernel_rfl) (by simp) ?_
        refine AllReadyH.cons rfl (fun K hK => ?_) (AllReadyH.nil)
        · go_simp
          refine hK.out _ _ (hx _ (Mod.alloc hx102 _)) (fun hH => ?_)
          clear hK K hH
          try simp only [Act.put, List.setIfInBounds_toArray, List.set_cons_zero, List.set_cons_succ]
          have hx103 : Ext wd (w102.alloc (.cells #[] 5)) := Mod.alloc hx102 _
          have pe3 := Own.empty w102 5
          have po3 := Own.alloc qa2 (.cells #[] 5)
          have pd3 : ∀ k, own (.slice (some ⟨w102.heap.size, 0, none⟩) 0 0) k → own va2 k → False := fun k h1 h2 => by have h3 := Own.lt qa2 h2; have : w102.heap.size = k := Option.some.inj h1; omega
          generalize (w102.alloc (.cells #[] 5)) = w103 at *
          refine wpAnyH_ready (rs := [17]) (by kernel_rfl) (by simp) ?_
          refine AllReadyH.cons rfl (fun K hK => ?_) (AllReadyH.nil)
          · rw [if_pos (by rfl)]
            refine op_app tyB pe3 (hb2.ext hx103) (bv_one _) (.tmp 75) (.tmp 80) 81 rfl rfl rfl rfl hn2.out ?_
            intro va4 w104 qa4 qb4 qc4
            rw [List.nil_append] at qa4
            have hx104 : Ext wd w104 := Mod.trans hx103 qb4 (fun _ _ h => h) (fun k hk h => Nat.lt_irrefl _ (Nat.lt_of_lt_of_le hk (by have h9 : w102.heap.size = k := Option.some.inj h; rw [← h9]; exact (hx102).size)))
            have ps4 := app_sep po3 pd3 qb4 qc4
            have fe4 : Fresh wd.heap.size (.slice (some ⟨w102.heap.size, 0, none⟩) 0 0) := fun k h => by have h9 : w102.heap.size = k := Option.some.inj h; rw [← h9]; exact (hx102).size
            have ff4 := (qc4.fresh fe4 (hx103).size).mono hxd.size
            refine hK.out _ _ (hx _ hx104) (fun hH => ?_)
            clear hK K hH
            try simp only [Act.put, List.setIfInBounds_toArray, List.set_cons_zero, List.set_cons_succ]
            have hcz := hx _ hx104
            (refine wpAnyH_take (i := 18) (oi := ⟨_, _, _, _, _, _⟩) (v := ?tv15) rfl (by kernel_rfl) (by kernel_rfl) (by kernel_rfl) (fun _ _ _ h => h) (Or.inl ⟨by rfl, ?hy15⟩) (by assumption) ?rs15; (case hy15 => (intro wx hSw; (try dsimp only at hSw); go_simp; try with_reducible rfl)); try simp only [Act.put, List.setIfInBounds_toArray, List.set_cons_zero, List.set_cons_succ])
            (refine wpAnyH_take (i := 19) (oi := ⟨_, _, _, _, _, _⟩) (v := ?tv16) rfl (by kernel_rfl) (by kernel_rfl) (by kernel_rfl) (fun _ _ _ h => h) (Or.inl ⟨by rfl, ?hy16⟩) (by assumption) ?rs16; (case hy16 => (intro wx hSw; (try dsimp only at hSw); go_simp; try with_reducible rfl)); try simp only [Act.put, List.setIfInBounds_toArray, List.set_cons_zero, List.set_cons_succ])
            (refine wpAnyH_take (i := 20) (oi := ⟨_, _, _, _, _, _⟩) (v := ?tv17) rfl (by kernel_rfl) (by kernel_rfl) (by kernel_rfl) (fun _ _ _ h => h) (Or.inl ⟨by rfl, ?hy17⟩) (by assumption) ?rs17; (case hy17 => (intro wx hSw; (try dsimp only at hSw); go_simp; try with_reducible rfl)); try simp only [Act.put, List.setIfInBounds_toArray, List.set_cons_zero, List.set_cons_succ])
            (refine wpAnyH_take (i := 21) (oi := ⟨_, _, _, _, _, _⟩) (v := ?tv18) rfl (by kernel_rfl) (by kernel_rfl) (by kernel_rfl) (fun _ _ _ h => h) (Or.inl ⟨by rfl, ?hy18⟩) (by assumption) ?rs18; (case hy18 => (intro wx hSw; (try dsimp only at hSw); go_simp; try with_reducible rfl)); try simp only [Act.put, List.setIfInBounds_toArray, List.set_cons_zero, List.set_cons_succ])
            refine wpAnyH_done (by kernel_rfl) ?_ _
            go_wp2_with fail
            go_meet
            exact ⟨rfl, rfl, ps4.1, qa4, ff2, ff4, hxd.trans hx104 (fun _ _ h => h) (fun _ _ h => h)⟩
      · go_simp
        refine hK.out _ _ (hx _ (Mod.alloc hx101 _)) (fun hH => ?_)
        clear hK K hH
        try simp only [Act.put, List.setIfInBounds_toArray, List.set_cons_zero, List.set_cons_succ]
        have hx105 : Ext wd (w101.alloc (.cells #[] 5)) := Mod.alloc hx101 _
        have pe5 := Own.empty w101 5
        have po5 := Own.alloc pe1 (.cells #[] 5)
        have pd5 : ∀ k, own (.slice (some ⟨w101.heap.size, 0, none⟩) 0 0) k → own (.slice (some ⟨wd.heap.size, 0, none⟩) 0 0) k → False := fun k h1 h2 => by have h3 := Own.lt pe1 h2; have : w101.heap.size = k := Option.some.inj h1; omega
        generalize (w101.alloc (.cells #[] 5)) = w105 at *
        refine wpAnyH_ready (rs := [10]) (by kernel_rfl) (by simp) ?_
        refine AllReadyH.cons rfl (fun K hK => ?_) (AllReadyH.nil)
        · rw [if_pos (by rfl)]
          refine op_app tyB po5 (hb1.ext hx105) (bv_one _) (.tmp 67) (.tmp 73) 74 rfl rfl rfl rfl hn1.out ?_
          intro va6 w106 qa6 qb6 qc6
          rw [List.nil_append] at qa6
          have hx106 : Ext wd w106 := Mod.trans hx105 qb6 (fun _ _ h => h) (fun k hk h => Nat.lt_irrefl _ (Nat.lt_of_lt_of_le hk (by have h9 : wd.heap.size = k := Option.some.inj h; rw [← h9]; exact (hx00).size)))
          have ps6 := app_sep pe5 (fun k h1 h2 => pd5 k h2 h1) qb6 qc6
          have fe6 : Fresh wd.heap.size (.slice (some ⟨wd.heap.size, 0, none⟩) 0 0) := fun k h => by have h9 : wd.heap.size = k := Option.some.inj h; rw [← h9]; exact (hx00).size
          have ff6 := (qc6.fresh fe6 (hx105).size).mono hxd.size
          refine hK.out _ _ (hx _ hx106) (fun hH => ?_)
          clear hK K hH
          try simp only [Act.put, List.setIfInBounds_toArray, List.set_cons_zero, List.set_cons_succ]
          refine wpAnyH_ready (rs := [17]) (by kernel_rfl) (by simp) ?_
          refine AllReadyH.cons rfl (fun K hK => ?_) (AllReadyH.nil)
          · rw [if_pos (by rfl)]
            refine op_app tyB ps6.1 (hb2.ext hx106) (bv_one _) (.tmp 75) (.tmp 80) 81 rfl rfl rfl rfl hn2.out ?_
            intro va7 w107 qa7 qb7 qc7
            rw [List.nil_append] at qa7
            have hx107 : Ext wd w107 := Mod.trans hx106 qb7 (fun _ _ h => h) (fun k hk h => Nat.lt_irrefl _ (Nat.lt_of_lt_of_le hk (by have h9 : w101.heap.size = k := Option.some.inj h; rw [← h9]; exact (hx101).size)))
            have ps7 := app_sep qa6 (fun k h1 h2 => ps6.2 k h2 h1) qb7 qc7
            have fe7 : Fresh wd.heap.size (.slice (some ⟨w101.heap.size, 0, none⟩) 0 0) := fun k h => by have h9 : w101.heap.size = k := Option.some.inj h; rw [← h9]; exact (hx101).size
            have ff7 := (qc7.fresh fe7 (hx106).size).mono hxd.size
            refine hK.out _ _ (hx _ hx107) (fun hH => ?_)
            clear hK K hH
            try simp only [Act.put, List.setIfInBounds_toArray, List.set_cons_zero, List.set_cons_succ]
            have hcz := hx _ hx107
            (refine wpAnyH_take (i := 18) (oi := ⟨_, _, _, _, _, _⟩) (v := ?tv19) rfl (by kernel_rfl) (by kernel_rfl) (by kernel_rfl) (fun _ _ _ h => h) (Or.inl ⟨by rfl, ?hy19⟩) (by assumption) ?rs19; (case hy19 => (intro wx hSw; (try dsimp only at hSw); go_simp; try with_reducible rfl)); try simp only [Act.put, List.setIfInBounds_toArray, List.set_cons_zero, List.set_cons_succ])
            (refine wpAnyH_take (i := 19) (oi := ⟨_, _, _, _, _, _⟩) (v := ?tv20) rfl (by kernel_rfl) (by kernel_rfl) (by kernel_rfl) (fun _ _ _ h => h) (Or.inl ⟨by rfl, ?hy20⟩) (by assumption) ?rs20; (case hy20 => (intro wx hSw; (try dsimp only at hSw); go_simp; try with_reducible rfl)); try simp only [Act.put, List.setIfInBounds_toArray, List.set_cons_zero, List.set_cons_succ])
            (refine wpAnyH_take (i := 20) (oi := ⟨_, _, _, _, _, _⟩) (v := ?tv21) rfl (by kernel_rfl) (by kernel_rfl) (by kernel_rfl) (fun _ _ _ h => h) (Or.inl ⟨by rfl, ?hy21⟩) (by assumption) ?rs21; (case hy21 => (intro wx hSw; (try dsimp only at hSw); go_simp; try with_reducible rfl)); try simp only [Act.put, List.setIfInBounds_toArray, List.set_cons_zero, List.set_cons_succ])
            (refine wpAnyH_take (i := 21) (oi := ⟨_, _, _, _, _, _⟩) (v := ?tv22) rfl (by kernel_rfl) (by kernel_rfl) (by kernel_rfl) (fun _ _ _ h => h) (Or.inl ⟨by rfl, ?hy22⟩) (by assumption) ?rs22; (case hy22 => (intro wx hSw; (try dsimp only at hSw); go_simp; try with_reducible rfl)); try simp only [Act.put, List.setIfInBounds_toArray, List.set_cons_zero, List.set_cons_succ])
            refine wpAnyH_done (by kernel_rfl) ?_ _
            go_wp2_with fail
            go_meet
            exact ⟨rfl, rfl, ps7.1, qa7, ff6, ff7, hxd.trans hx107 (fun _ _ h => h) (fun _ _ h => h)⟩
    · go_simp
      refine hK.out _ _ (hx _ (Mod.alloc hx00 _)) (fun hH => ?_)
      clear hK K hH
      try simp only [Act.put, List.setIfInBounds_toArray, List.set_cons_zero, List.set_cons_succ]
      have hx108 : Ext wd (wd.alloc (.cells #[] 5)) := Mod.alloc hx00 _
      have pe8 := Own.empty wd 5
      generalize (wd.alloc (.cells #[] 5)) = w108 at *
      refine wpAnyH_ready (rs := [3]) (by kernel_rfl) (by simp) ?_
      refine AllReadyH.cons rfl (fun K hK => ?_) (AllReadyH.nil)
      · go_simp
        refine hK.out _ _ (hx _ (Mod.alloc hx108 _)) (fun hH => ?_)
        clear hK K hH
        try simp only [Act.put, List.setIfInBounds_toArray, List.set_cons_zero, List.set_cons_succ]
        have hx109 : Ext wd (w108.alloc (.cells #[] 5)) := Mod.alloc hx108 _
        have pe9 := Own.empty w108 5
        have po9 := Own.alloc pe8 (.cells #[] 5)
        have pd9 : ∀ k, own (.slice (some ⟨w108.heap.size, 0, none⟩) 0 0) k → own (.slice (some ⟨wd.heap.size, 0, none⟩) 0 0) k → False := fun k h1 h2 => by have h3 := Own.lt pe8 h2; have : w108.heap.size = k := Option.some.inj h1; omega
        generalize (w108.alloc (.cells #[] 5)) = w109 at *
        refine wpAnyH_ready (rs := [10]) (by kernel_rfl) (by simp) ?_
        refine AllReadyH.cons rfl (fun K hK => ?_) (AllReadyH.nil)
        · rw [if_pos (by rfl)]
          refine op_app tyB pe9 (hb1.ext hx109) (bv_one _) (.tmp 67) (.tmp 73) 74 rfl rfl rfl rfl hn1.out ?_
          intro va10 w110 qa10 qb10 qc10
          rw [List.nil_append] at qa10
          have hx110 : Ext wd w110 := Mod.trans hx109 qb10 (fun _ _ h => h) (fun k hk h => Nat.lt_irrefl _ (Nat.lt_of_lt_of_le hk (by have h9 : w108.heap.size = k := Option.some.inj h; rw [← h9]; exact (hx108).size)))
          have ps10 := app_sep po9 pd9 qb10 qc10
          have fe10 : Fresh wd.heap.size (.slice (some ⟨w108.heap.size, 0, none⟩) 0 0) := fun k h => by have h9 : w108.heap.size = k := Option.some.inj h; rw [← h9]; exact (hx108).size
          have ff10 := (qc10.fresh fe10 (hx109).size).mono hxd.size
          refine hK.out _ _ (hx _ hx110) (fun hH => ?_)
          clear hK K hH
          try simp only [Act.put, List.setIfInBounds_toArray, List.set_cons_zero, List.set_cons_succ]
          refine wpAnyH_ready (rs := [17]) (by kernel_rfl) (by simp) ?_
          refine AllReadyH.cons rfl (fun K hK => ?_) (AllReadyH.nil)
          · rw [if_pos (by rfl)]
            refine op_app tyB ps10.1 (hb2.ext hx110) (bv_one _) (.tmp 75) (.tmp 80) 81 rfl rfl rfl rfl hn2.out ?_
            intro va11 w111 qa11 qb11 qc11
            rw [List.nil_append] at qa11
            have hx111 : Ext wd w111 := Mod.trans hx110 qb11 (fun _ _ h => h) (fun k hk h => Nat.lt_irrefl _ (Nat.lt_of_lt_of_le hk (by have h9 : wd.heap.size = k := Option.some.inj h; rw [← h9]; exact (hx00).size)))
            have ps11 := app_sep qa10 (fun k h1 h2 => ps10.2 k h2 h1) qb11 qc11
            have fe11 : Fresh wd.heap.size (.slice (some ⟨wd.heap.size, 0, none⟩) 0 0) := fun k h => by have h9 : wd.heap.size = k := Option.some.inj h; rw [← h9]; exact (hx00).size
            have ff11 := (qc11.fresh fe11 (hx110).size).mono hxd.size
            refine hK.out _ _ (hx _ hx111) (fun hH => ?_)
            clear hK K hH
            try simp only [Act.put, List.setIfInBounds_toArray, List.set_cons_zero, List.set_cons_succ]
            have hcz := hx _ hx111
            (refine wpAnyH_take (i := 18) (oi := ⟨_, _, _, _, _, _⟩) (v := ?tv23) rfl (by kernel_rfl) (by kernel_rfl) (by kernel_rfl) (fun _ _ _ h => h) (Or.inl ⟨by rfl, ?hy23⟩) (by assumption) ?rs23; (case hy23 => (intro wx hSw; (try dsimp only at hSw); go_simp; try with_reducible rfl)); try simp only [Act.put, List.setIfInBounds_toArray, List.set_cons_zero, List.set_cons_succ])
            (refine wpAnyH_take (i := 19) (oi := ⟨_, _, _, _, _, _⟩) (v := ?tv24) rfl (by kernel_rfl) (by kernel_rfl) (by kernel_rfl) (fun _ _ _ h => h) (Or.inl ⟨by rfl, ?hy24⟩) (by assumption) ?rs24; (case hy24 => (intro wx hSw; (try dsimp only at hSw); go_simp; try with_reducible rfl)); try simp only [Act.put, List.setIfInBounds_toArray, List.set_cons_zero, List.set_cons_succ])
            (refine wpAnyH_take (i := 20) (oi := ⟨_, _, _, _, _, _⟩) (v := ?tv25) rfl (by kernel_rfl) (by kernel_rfl) (by kernel_rfl) (fun _ _ _ h => h) (Or.inl ⟨by rfl, ?hy25⟩) (by assumption) ?rs25; (case hy25 => (intro wx hSw; (try dsimp only at hSw); go_simp; try with_reducible rfl)); try simp only [Act.put, List.setIfInBounds_toArray, List.set_cons_zero, List.set_cons_succ])
            (refine wpAnyH_take (i := 21) (oi := ⟨_, _, _, _, _, _⟩) (v := ?tv26) rfl (by kernel_rfl) (by kernel_rfl) (by kernel_rfl) (fun _ _ _ h => h) (Or.inl ⟨by rfl, ?hy26⟩) (by assumption) ?rs26; (case hy26 => (intro wx hSw; (try dsimp only at hSw); go_simp; try with_reducible rfl)); try simp only [Act.put, List.setIfInBounds_toArray, List.set_cons_zero, List.set_cons_succ])
            refine wpAnyH_done (by kernel_rfl) ?_ _
            go_wp2_with fail
            go_meet
            exact ⟨rfl, rfl, ps11.1, qa11, ff10, ff11, hxd.trans hx111 (fun _ _ h => h) (fun _ _ h => h)⟩
  case rest =>
    obtain ⟨rfl, rfl, r1, r2, rf1, rf2, r3⟩ := hcut
    go_wp2_with fail
    (try simp only [Exit.inBlock, Exit.then]); refine bodyPost_ret (results_tmp4 rfl _ _ _) rfl ?_
    exact ⟨_, _, rfl, r1, r2, rf1, rf2, r3⟩
end Go.Proofs.Ytcffefadagfdcaa
