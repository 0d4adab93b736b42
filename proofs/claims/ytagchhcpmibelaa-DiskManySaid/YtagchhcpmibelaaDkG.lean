/- disk: a file dropped, laid into the map; what is used; the fuse. -/
import Derived.Test.YtagchhcpmibelaaDkF
namespace Go.Proofs.Ytagchhcpmibelaa
open Go.RowKit Go.Maps Go.WideMaps
set_option maxRecDepth 100000

section
variable {S T F : Nat → Prop} {w w' : World} {bd bm : Nat} {D : DataW Unit} {G : Lay} {d : Ds}
/-- A file is gone. -/
theorem DkAt.gone (h : DkAt S w bd bm D G d) (x : List UInt8) (hm : Mod (fun k => k = bd ∨ k = bm) w w') (hb : Blk w' bd 70 (dcells { d with L := delF d.L x } bm)) (hM : w'.ownsMap Try.prog 9 ptrElem bm d.L.length (D.del (.string x))) :
    DkAt S w' bd bm (D.del (.string x)) G { d with L := delF d.L x } := by
  have hof := h.of.del h.rise x
  have hsz := sumB_delF (x := x) h.rise
  have hmem : ∀ f ∈ delF d.L x, f ∈ d.L := fun f hf => ((mem_delF f).1 hf).1
  have hN := ownsMap_tight hM
  rw [hof.size] at hN
  refine ⟨h.sd, h.sm, hb, hN, hof, rise_delF h.rise x, fun f hf => h.fs f (hmem f hf), fun f hf => (h.fb f (hmem f hf)).mod hm ?_, fun f hf => (h.fo f (hmem f hf)).mod hm fun k hk => ?_, fun f hf => h.fl f (hmem f hf), fun f hf f' hf' => h.apart f (hmem f hf) f' (hmem f' hf'), by show sumB (delF d.L x) ≤ d.room; have := h.room; omega, h.most, by show (delF d.L x).length ≤ 4096; have := h.few; omega, h.lf⟩
  · rintro (e | e)
    · exact h.bd_ne (hmem f hf) e
    · exact (h.fb f (hmem f hf)).ne_map h.map e
  · rintro (e | e)
    · exact (h.own_ne (hmem f hf) hk).1 e
    · exact (h.own_ne (hmem f hf) hk).2.1 e
/-- A file is laid into the map. -/
theorem DkAt.laid (h : DkAt S w bd bm D G d) {x : List UInt8} (hx : x ∉ nms d.L) {g : Nat} {u : Value} {b : List UInt8} {last : Nat} (hm : Mod (fun k => k = bd ∨ k = bm) w w') (hb : Blk w' bd 70 (dcells { d with L := putF d.L ⟨x, b, last⟩ } bm)) (hM : w'.ownsMap Try.prog 9 ptrElem bm (d.L.length + 1) (D.put (.string x) (.lit (.int .i64 (g : Nat)))))
    (hg : Blk w g 77 (fcells u last)) (ho : Own w 5 u (b.map bv)) (hl : last ≤ b.length ∧ 1 ≤ x.length ∧ x.length ≤ 64) (hsg : S g ∧ ∀ k, own u k → S k) (hap : ∀ f ∈ d.L, g ≠ (G f.name).1 ∧ ∀ k, own u k → ¬ own (G f.name).2 k) (hroom : sumB d.L + b.length ≤ d.room) (hfew : d.L.length < 4096) :
    DkAt S w' bd bm (D.put (.string x) (.lit (.int .i64 (g : Nat)))) (upd G x (g, u)) { d with L := putF d.L ⟨x, b, last⟩ } := by
  have hof := h.of.put h.rise ⟨x, b, last⟩ g u
  have hget : getF d.L x = none := by
    cases e : getF d.L x with
    | none => rfl
    | some f => exact absurd (getF_iff.2 (by rw [e]; rfl)) hx
  obtain ⟨s1, s2⟩ := sumB_putF (f := ⟨x, b, last⟩) h.rise
  rw [show (⟨x, b, last⟩ : Fi).name = x from rfl, hget] at s1 s2
  simp only [lenB, one] at s1 s2
  have hlen : (putF d.L ⟨x, b, last⟩).length = d.L.length + 1 := by omega
  have hcase : ∀ f' ∈ putF d.L ⟨x, b, last⟩, f' = ⟨x, b, last⟩ ∨ (f' ∈ d.L ∧ f'.name ≠ x) := fun f' hf' => (mem_putF h.rise f').1 hf'
  have hnew : ∀ k, own u k → k ≠ bd ∧ k ≠ bm := fun k hk => by
    obtain ⟨cur, hc⟩ := ho.ty hk
    exact ⟨by rintro rfl; exact absurd (hc.ty_eq h.blk) (by decide), hc.ne_map h.map⟩
  refine ⟨h.sd, h.sm, hb, ?_, hof, rise_putF h.rise, ?_, ?_, ?_, ?_, ?_, ?_, h.most, by show (putF d.L _).length ≤ 4096; rw [hlen]; omega, h.lf⟩
  · show w'.ownsMap _ _ _ bm (putF d.L _).length _
    rw [hlen]
    exact hM
  · intro f' hf'
    rcases hcase f' hf' with rfl | ⟨h1, h2⟩
    · rw [upd_same]; exact hsg
    · rw [upd_other _ _ h2]; exact h.fs f' h1
  · intro f' hf'
    rcases hcase f' hf' with rfl | ⟨h1, h2⟩
    · rw [upd_same]
      refine hg.mod hm ?_
      rintro (e | e)
      · rw [e] at hg; exact absurd (hg.ty_eq h.blk) (by decide)
      · exact hg.ne_map h.map e
    · rw [upd_other _ _ h2]
      refine (h.fb f' h1).mod hm ?_
      rintro (e | e)
      · exact h.bd_ne h1 e
      · exact (h.fb f' h1).ne_map h.map e
  · intro f' hf'
    rcases hcase f' hf' with rfl | ⟨h1, h2⟩
    · rw [upd_same]
      refine ho.mod hm fun k hk => ?_
      rintro (e | e)
      · exact (hnew k hk).1 e
      · exact (hnew k hk).2 e
    · rw [upd_other _ _ h2]
      refine (h.fo f' h1).mod hm fun k hk => ?_
      rintro (e | e)
      · exact (h.own_ne h1 hk).1 e
      · exact (h.own_ne h1 hk).2.1 e
  · intro f' hf'
    rcases hcase f' hf' with rfl | ⟨h1, h2⟩
    · exact hl
    · exact h.fl f' h1
  · intro f1 h1 f2 h2 hn
    rcases hcase f1 h1 with rfl | ⟨a1, a2⟩ <;> rcases hcase f2 h2 with rfl | ⟨c1, c2⟩
    · exact absurd rfl hn
    · rw [upd_same, upd_other _ _ c2]
      exact hap f2 c1
    · rw [upd_same, upd_other _ _ a2]
      exact ⟨Ne.symm (hap f1 a1).1, fun k hk hk2 => (hap f1 a1).2 k hk2 hk⟩
    · rw [upd_other _ _ a2, upd_other _ _ c2]
      exact h.apart f1 a1 f2 c1 hn
  · show sumB (putF d.L _) ≤ d.room
    omega
theorem mod_turned {b : Nat} (h : w.mapTurned w' b) : Mod (fun k => k = b) w w' := by
  obtain ⟨es, clock, es', clock', hb, rfl⟩ := h
  refine ⟨rfl, rfl, rfl, by simp [ChangeMaps.setBlock], fun k _ hk => ?_⟩
  exact ChangeMaps.heap_setBlock_other hb _ (fun e => hk (by rw [e]))

set_option maxHeartbeats 4000000 in
theorem drop_none (h : DkAt S w bd bm D G d) {x : List UInt8} (hx : getF d.L x = none) (hl : x.length ≤ 64) :
    Calls Try.prog 70 #[pv bd, sv x] w fun e w' => e = .returned (.tuple #[]) ∧ w' = w := by
  have hhas : has D (.string x) = false := by rw [h.of.has]; exact decide_eq_false (getF_none hx)
  have hM := h.map
  have c2 : w.cell? ⟨bd, 2, none⟩ = some (.map (some bm)) := h.blk.cell 2
  clear h hx
  replace hhas := Lib.hid hhas
  go_enter Try.func70, Try.ntmps70
  go_wp2_with (at_lookup; refine wp_lookN hM (by omega) hhas.out rfl _ _ rfl rfl rfl ?_)
  go_end0
  exact ⟨rfl, rfl⟩
set_option maxHeartbeats 4000000 in
theorem drop_some (h : DkAt S w bd bm D G d) {f : Fi} (hf : f ∈ d.L) :
    Calls Try.prog 70 #[pv bd, sv f.name] w fun e w' => e = .returned (.tuple #[]) ∧ DkAt S w' bd bm (D.del (.string f.name)) G { d with L := delF d.L f.name } ∧ Mod (fun k => k = bd ∨ k = bm) w w' := by
  have hin : f.name ∈ nms d.L := List.mem_map.2 ⟨f, hf, rfl⟩
  have hhas : has D (.string f.name) = true := by rw [h.of.has]; exact decide_eq_true hin
  have hat := h.of.key _ hin
  have hl := (h.fl f hf).2.2
  have hM := h.map
  have c1 : w.cell? ⟨bd, 1, none⟩ = some (.int .i64 (sumB d.L : Nat)) := h.blk.cell 1
  have c2 : w.cell? ⟨bd, 2, none⟩ = some (.map (some bm)) := h.blk.cell 2
  have z1 : w.frozen? ⟨bd, 1, none⟩ = false := h.blk.frozen 1
  obtain ⟨A, c, hv⟩ := (h.fo f hf).shape
  rw [List.length_map] at hv
  have g0 : w.cell? ⟨(G f.name).1, 0, none⟩ = some (.slice A f.b.length c) := by rw [← hv]; exact (h.fb f hf).cell 0
  have hsum := sumB_delF (x := f.name) h.rise
  rw [getF_of_mem h.rise hf] at hsum
  simp only [lenB, one] at hsum
  have hroom := h.room
  have hmost := h.most
  have hw : IntKind.i64.wrap ((sumB d.L : Nat) - (f.b.length : Int)) = (sumB d.L : Nat) - (f.b.length : Int) := by rw [IntKind.wrap_i64]; omega
  have hbm : bd ≠ bm := h.blk.ne_map h.map
  have hM2 : ∀ x : Int, ((w.setCell ⟨bd, 1, none⟩ (.int .i64 x)).drew).ownsMap Try.prog 9 ptrElem bm d.L.length D := fun x => ownsMap_mod h.map (setg_mod w bd 1 _).drew fun e => hbm e.symm
  have hfin : ∀ (x : Int) (w' : World), x = (sumB d.L : Nat) - (f.b.length : Int) → Mod (fun k => k = bm) (w.setCell ⟨bd, 1, none⟩ (.int .i64 x)).drew w' → w'.ownsMap Try.prog 9 ptrElem bm d.L.length (D.del (.string f.name)) →
      DkAt S w' bd bm (D.del (.string f.name)) G { d with L := delF d.L f.name } ∧ Mod (fun k => k = bd ∨ k = bm) w w' := by
    intro x w' hx hm hM'
    have hx' : x = (sumB (delF d.L f.name) : Nat) := by omega
    subst hx'
    have hm2 : Mod (fun k => k = bd ∨ k = bm) w w' := (setg_mod w bd 1 _).drew.trans hm (fun _ _ h => .inl h) (fun _ _ h => .inr h)
    have hb : Blk (w.setCell ⟨bd, 1, none⟩ (.int .i64 (sumB (delF d.L f.name) : Nat))).drew bd 70 (dcells { d with L := delF d.L f.name } bm) := h.blk.set_ 1 _
    exact ⟨h.gone f.name hm2 (hb.mod hm hbm) hM', hm2⟩
  replace hfin := Lib.hid hfin
  clear h hf hin hv hsum
  generalize (G f.name).1 = g at *
  generalize f.b.length = m at *
  generalize sumB d.L = U at *
  generalize f.name = x at *
  replace hhas := Lib.hid hhas
  replace hat := Lib.hid hat
  go_enter Try.func70, Try.ntmps70
  go_wp2_with (at_lookup; refine wp_lookS hM (by omega) hhas.out hat.out rfl _ _ rfl rfl rfl ?_)
  go_region
  all_goals go_wp2_with (at_delete; refine wpList_delete_own _ rfl _ _ 68 9 rfl 74 keyS Try.underlying68 _ bm d.L.length D rfl (hM2 _) _ _ rfl (keyOf_sv x (by omega)) ?_; intro w1 hM1 ht1)
  all_goals
    have hx := hfin.out _ _ rfl (mod_turned ht1) hM1
    go_end0
    exact ⟨rfl, hx⟩
set_option maxHeartbeats 4000000 in
theorem put_any (h : DkAt S w bd bm D G d) {x : List UInt8} (hx : x ∉ nms d.L) (hxl : 1 ≤ x.length ∧ x.length ≤ 64) {g : Nat} (hg : Blk w g 77 (fcells (.slice none 0 0) 0)) (hap : ∀ f ∈ d.L, g ≠ (G f.name).1) (hfew : d.L.length < 4096) (hsg : S g) :
    Calls Try.prog 50 #[pv bd, sv x, pv g] w fun e w' => e = .returned (.tuple #[]) ∧ DkAt S w' bd bm (D.put (.string x) (.lit (.int .i64 (g : Nat)))) (upd G x (g, .slice none 0 0)) { d with L := putF d.L ⟨x, [], 0⟩ } ∧ Mod (fun k => k = bm) w w' := by
  have hM := h.map
  have c2 : w.cell? ⟨bd, 2, none⟩ = some (.map (some bm)) := h.blk.cell 2
  have hbm : bd ≠ bm := h.blk.ne_map h.map
  have hfin : ∀ (w' : World), Mod (fun k => k = bm) w w' → w'.ownsMap Try.prog 9 ptrElem bm (d.L.length + 1) (D.put (.string x) (.lit (.int .i64 (g : Nat)))) →
      DkAt S w' bd bm (D.put (.string x) (.lit (.int .i64 (g : Nat)))) (upd G x (g, .slice none 0 0)) { d with L := putF d.L ⟨x, [], 0⟩ } := by
    intro w' hm hM'
    have hget : getF d.L x = none := by
      cases e : getF d.L x with
      | none => rfl
      | some f => exact absurd (getF_iff.2 (by rw [e]; rfl)) hx
    have hs := (sumB_putF (f := ⟨x, [], 0⟩) h.rise).1
    rw [show (⟨x, [], 0⟩ : Fi).name = x from rfl, hget] at hs
    simp only [lenB, List.length_nil, Nat.add_zero] at hs
    have hb : Blk w' bd 70 (dcells { d with L := putF d.L ⟨x, [], 0⟩ } bm) := by
      have := h.blk.mod hm hbm
      simp only [dcells, hs] at this ⊢
      exact this
    exact h.laid hx (hm.mono fun _ _ h => .inr h) hb hM' hg (Own.nil _ _) ⟨Nat.zero_le _, hxl⟩ ⟨hsg, fun k hk => by simp [own, Value.ownBlock] at hk⟩ (fun f hf => ⟨hap f hf, fun k hk => by simp [own, Value.ownBlock] at hk⟩) (by simpa using h.room) hfew
  replace hfin := Lib.hid hfin
  have hlt : d.L.length < maxLen := by simp only [maxLen]; omega
  clear h hap hx
  have hne : ∀ wx : World, (binOp .eql 68 (.map (some bm)) (.map none)).run Try.prog wx = .ok (.bool false) wx := fun wx => by rfl
  go_enter Try.func50, Try.ntmps50
  go_wp2_with (at_mapUpdate; refine wpList_mapUpdate_in _ rfl _ _ _ 68 rfl 9 74 keyS Try.underlying68 ptrElem bm d.L.length D rfl hM hlt _ _ _ rfl rfl (keyOf_sv x (by omega)) _ [] (ptr_mk g) ?_; intro w1 hM1 ht1)
  go_end0
  exact ⟨rfl, hfin.out _ (mod_turned ht1) hM1, mod_turned ht1⟩
set_option maxHeartbeats 4000000 in
theorem used_any (h : DkAt S w bd bm D G d) :
    Calls Try.prog 30 #[pv bd] w fun e w' => e = .returned (ev (sumB d.L)) ∧ w' = w := by
  have c1 : w.cell? ⟨bd, 1, none⟩ = some (.int .i64 (sumB d.L : Nat)) := h.blk.cell 1
  clear h
  go_enter Try.func30, Try.ntmps30
  go_wp2_with fail
  go_ret
  exact ⟨rfl, rfl⟩
def fuseD (d : Ds) (n : Int) : Ds := { d with fu := decide (0 ≤ n), left := n.toNat }
set_option maxHeartbeats 4000000 in
theorem fuse_any (h : DkAt S w bd bm D G d) (n : Int) (hn63 : n ≤ 9223372036854775807) :
    Calls Try.prog 25 #[pv bd, .int .i64 n] w fun e w' => e = .returned (.tuple #[]) ∧ DkAt S w' bd bm D G (fuseD d n) ∧ Mod (fun k => k = bd) w w' := by
  have c3 : w.cell? ⟨bd, 3, none⟩ = some (.bool d.fu) := h.blk.cell 3
  have c4 : w.cell? ⟨bd, 4, none⟩ = some (.int .i64 (d.left : Int)) := h.blk.cell 4
  have z3 : w.frozen? ⟨bd, 3, none⟩ = false := h.blk.frozen 3
  have z4 : w.frozen? ⟨bd, 4, none⟩ = false := h.blk.frozen 4
  have hfin : ∀ (b : Bool) (x : Int), b = decide (0 ≤ n) → x = (n.toNat : Nat) → DkAt S ((w.setCell ⟨bd, 3, none⟩ (.bool b)).setCell ⟨bd, 4, none⟩ (.int .i64 x)) bd bm D G (fuseD d n) ∧ Mod (fun k => k = bd) w ((w.setCell ⟨bd, 3, none⟩ (.bool b)).setCell ⟨bd, 4, none⟩ (.int .i64 x)) := fun b x hb hx => by
    subst hb; subst hx
    have hm : Mod (fun k => k = bd) w ((w.setCell ⟨bd, 3, none⟩ (.bool (decide (0 ≤ n)))).setCell ⟨bd, 4, none⟩ (.int .i64 (n.toNat : Nat))) := (setg_mod w bd 3 _).setCell (p := ⟨bd, 4, none⟩) (fun _ => rfl) _
    exact ⟨h.self hm ((h.blk.set_ 3 _).set_ 4 _) (by omega), hm⟩
  replace hfin := Lib.hid hfin
  clear h
  by_cases hn : 0 ≤ n
  · have hb : decide (0 ≤ n) = true := dtrue hn
    go_enter Try.func25, Try.ntmps25
    go_wp2_with fail
    all_goals
      go_end0
      exact ⟨rfl, hfin.out _ _ (dtrue hn).symm (by omega)⟩
  · have hb : decide (0 ≤ n) = false := dfalse hn
    go_enter Try.func25, Try.ntmps25
    go_wp2_with fail
    all_goals
      go_end0
      exact ⟨rfl, hfin.out _ _ (dfalse (by omega)).symm (by omega)⟩
end
end Go.Proofs.Ytagchhcpmibelaa
