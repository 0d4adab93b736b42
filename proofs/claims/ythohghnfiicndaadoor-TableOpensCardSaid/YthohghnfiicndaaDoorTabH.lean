/- table: all cells of a Table. -/
import Derived.Test.YthohghnfiicndaaDoorTabG
import Derived.Test.YthohghnfiicndaaDoorMemM
import Derived.Deep.RegionHeld3
import Derived.Deep.DeepCutAuto
namespace Go.Proofs.YthohghnfiicndaaDoor
open Go.RowKit Go.Maps Go.WideMaps
set_option maxRecDepth 100000

theorem tyEn : SliceTyK Tryd.prog 70 85 (.agg #[.string ⟨#[]⟩, .int .i64 0]) 2 24 := ⟨Tryd.underlying70, by kernel_rfl, rfl, by omega, by omega⟩
theorem En.at_ {w : World} {S : Nat → Prop} {A : Option Addr} {L : List En} (h : RcAt enl 2 w S A L) {i : Nat} (hi : i < L.length) :
    ∃ ad, A = some ad ∧ S ad.block ∧ w.cell? (ad.add (i * 2)) = some (sv L[i].key) ∧ w.cell? ⟨(ad.add (i * 2)).block, (ad.add (i * 2)).off + 1, none⟩ = some (.int .i64 L[i].seq) := by
  obtain ⟨ad, hA, hS, h0⟩ := h i 0 (sv L[i].key) hi (by omega) rfl
  obtain ⟨ad1, hA1, _, h1⟩ := h i 1 (.int .i64 L[i].seq) hi (by omega) rfl
  rw [hA] at hA1
  cases hA1
  rw [add_next _ _ _ (by omega)] at h1
  exact ⟨ad, hA, hS, h0, h1⟩
theorem allV_snoc (acc : List Bv) {k : Nat} (h : k < acc.length) : allT ((acc.take (k + 1)).map Prod.fst) = allT ((acc.take k).map Prod.fst) ++ acc[k].1.2 := by
  rw [List.take_succ_eq_append_getElem h, List.map_append, List.map_singleton, allT_snoc]
theorem allV_le (acc : List Bv) (k : Nat) : (allT ((acc.take k).map Prod.fst)).length ≤ (allT (acc.map Prod.fst)).length := by
  have : allT (acc.map Prod.fst) = allT ((acc.take k).map Prod.fst) ++ allT ((acc.drop k).map Prod.fst) := by
    unfold allT
    rw [← List.flatMap_append, ← List.map_append, List.take_append_drop]
  rw [this, List.length_append]; omega

set_option maxHeartbeats 8000000 in
theorem all_any {S : Nat → Prop} {w : World} {g bm : Nat} {ve vf : Value} {D : DataW Unit} {acc : List Bv} {cnt : Int} {fil : List UInt8} (h : TbAt S w g bm ve vf D acc cnt fil) (hw : (allT (acc.map Prod.fst)).length ≤ 1000000) (hl : acc.length ≤ 1000000) :
    Calls Tryd.prog 44 #[.pointer (some ⟨g, 0, none⟩)] w fun e w' => ∃ v', e = .returned v' ∧ OwnC w' v' (allT (acc.map Prod.fst)) ∧ Fresh w.heap.size v' ∧ Ext w w' := by
  obtain ⟨A, c, hve, h1, h2, h3, h4⟩ := h.ends.rc.open_ enl_len
  rw [List.length_map] at hve h1
  have c0 : w.cell? ⟨g, 0, none⟩ = some ve := h.blk.cell 0
  rw [hve] at c0
  replace hw := Lib.hid hw
  go_enter Tryd.func44, Tryd.ntmps44
  go_wp2_with fail
  go_loopw [3, 11] (fun u i wr => ∃ (k : Nat) (Y : List Ce), k ≤ acc.length ∧ i = .int .i64 k ∧ Hid (Y = allT ((acc.take k).map Prod.fst)) ∧ OwnC wr u Y ∧ Fresh w.heap.size u ∧ Ext w wr) (fun _ i _ => acc.length - (intOf i).toNat)
  case atStart => exact ⟨0, [], Nat.zero_le _, rfl, Lib.hid rfl, OwnR.nil cel 4 _ _, fresh_nil _ _ _, Mod.refl _ _⟩
  case round =>
    clear c0
    obtain ⟨k, Y, hk, rfl, hY, o1, f1, x1⟩ := hrel
    by_cases hlt : k < acc.length
    · have hbl : decide ((k : Int) < (acc.length : Int)) = true := dtrue (by omega)
      obtain ⟨ad, hA, -, e0, e1⟩ := En.at_ (h4.ext x1) (i := k) (by rw [List.length_map]; exact hlt)
      rw [List.getElem_map] at e0 e1
      subst hA
      have hsn := allV_snoc acc hlt
      have hle := allV_le acc (k + 1)
      rw [hsn, ← hY.out, List.length_append] at hle
      rw [← hY.out] at hsn
      have hx := List.getElem_mem hlt
      have hcx := (h.cells _ hx).rc
      have hlk := fun {wx : World} (m : Ext w wx) => (h.ext m).look hx
      have hbk := fun {wx : World} (m : Ext w wx) => (h.ext m).blk
      have hi0 : (0 : Int) ≤ (k : Int) := by omega
      have hi1 : (k : Int) < (acc.length : Int) := by omega
      generalize acc[k] = x at *
      obtain ⟨⟨⟨ek, es⟩, cs⟩, xv⟩ := x
      simp only at e0 e1 hsn hle hcx hlk
      obtain ⟨wb, hwb⟩ : ∃ wb, wb = wr.alloc (.cells #[sv ek, .int .i64 es] 85) := ⟨_, rfl⟩
      have xb : Ext wr wb := by rw [hwb]; exact (Mod.refl _ wr).alloc _
      have B0 : Blk wb wr.heap.size 85 #[sv ek, .int .i64 es] := by rw [hwb]; exact Blk.new wr _ _
      have qb : Ext w wb.drew := (ext_trans x1 xb).drew
      have ob0 : OwnC wb u3 Y := o1.ext xb
      have ob : OwnC wb.drew u3 Y := ob0
      have rx : Cs wb.drew (own xv) xv cs := hcx.ext qb
      have hcc : ∀ {wx : World}, Ext w wx → Mod (own u3) wb.drew wx → wx.cell? ⟨g, 1, none⟩ = some (.map (some bm)) ∧ wx.cell? ⟨wr.heap.size, 0, none⟩ = some (sv ek) ∧ wx.cell? ⟨wr.heap.size, 1, none⟩ = some (.int .i64 es) ∧ (Instr.lookup 69 (.map (some bm)) (.agg #[sv ek, .int .i64 es]) false).run Tryd.prog wx = .ok xv wx := fun m m2 => by
        have b2 := B0.mod (w := wb.drew) m2 (fun e => by have := o1.lt e; omega)
        exact ⟨(hbk m).cell 1, b2.cell 0, b2.cell 1, hlk m⟩
      have q0 := hcc qb (Mod.refl _ _)
      have okC : ∀ z ∈ cs, ∀ u ∈ cel z, u.oneCell' = true := fun z _ => cel_ok z
      have n1 : (Y.length + cs.length) * 48 ≤ 140737488355328 := by have := hw.out; omega
      replace okC := Lib.hid okC
      replace n1 := Lib.hid n1
      replace hwb := Lib.hid hwb
      replace hsn := Lib.hid hsn
      clear hle hx hcx hlk hbk hY h
      go_upto_region 5 with fail
      rw [← hwb.out]
      clear e0 e1
      go_region_held3 (fun wx => wx.cell? ⟨g, 1, none⟩ = some (.map (some bm)) ∧ wx.cell? ⟨wr.heap.size, 0, none⟩ = some (sv ek) ∧ wx.cell? ⟨wr.heap.size, 1, none⟩ = some (.int .i64 es) ∧ (Instr.lookup 69 (.map (some bm)) (.agg #[sv ek, .int .i64 es]) false).run Tryd.prog wx = .ok xv wx) (first | exact q0 | exact q1)
        (first | (refine step_appRs 22 tyC ob rx okC.out n1.out rfl rfl (.tmp 15) (.tmp 21) rfl rfl rfl ?_; intro va wa ka1 ka2 ka3; have y1 := ext_app0 qb (fun k hk => f1 k hk) ka2; have q1 := hcc y1 ka2))
      all_goals go_wp2_with fail
      all_goals exact ⟨⟨k + 1, Y ++ cs, by omega, by go_num, hsn.out.symm ▸ Lib.hid rfl, ka1, ka3.fresh f1 (by have := qb.size; exact this), y1⟩, by simp [intOf] <;> omega⟩
    have hbl : decide ((k : Int) < (acc.length : Int)) = false := dfalse (by omega)
    obtain rfl : k = acc.length := by omega
    rw [List.take_length] at hY
    go_wp2_with fail
    go_ret
    exact ⟨_, rfl, by rw [← hY.out]; exact o1, f1, x1⟩
end Go.Proofs.YthohghnfiicndaaDoor
