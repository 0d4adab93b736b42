/- the document's Disk: a file turned; Sync, Truncate. -/
import Derived.Test.YtblfhonfjljndaaDoorRdC
import Derived.Test.YtblfhonfjljndaaDoorRegA
namespace Go.Proofs.YtblfhonfjljndaaDoor
open Go.RowKit Go.Maps Go.WideMaps
set_option maxRecDepth 100000

theorem posF_self {L : Fis} (hr : Rise L) {i : Nat} (hi : i < L.length) : posF L L[i].name = i := by
  symm
  have hp : L.Pairwise fun a b => Op.bytesLess a.name b.name = true := List.pairwise_map.1 hr
  exact posF_unique (Nat.le_of_lt hi) (fun j hj h => List.pairwise_iff_getElem.1 hp j i hj hi h) (fun _ => less_irr _)
section
variable {S T F : Nat → Prop} {w w' : World} {bd : Nat} {vL v : Value} {A : List (Fi × Value)} {d : Ds}
/-- A file turned. -/
theorem RdAt.turn (h : RdAt S w bd vL A d) {S' T : Nat → Prop} {i : Nat} (hi : i < A.length) {f' : Fi} {v' : Value} (hn : f'.name = A[i].1.name) (hm : Mod F w w') (hF : ∀ k, k < w.heap.size → F k → own vL k)
    (hrow : OwnR fiv 3 w' fileT vL (A.set i (f', v'))) (hb : Bs w' T v' f'.b) (hT : ∀ k, k < w'.heap.size → T k → S' k ∧ k ≠ bd ∧ ¬ own vL k) (hS : ∀ k, S k → S' k) (hl : f'.last ≤ f'.b.length) (hroom : sumB d.L + f'.b.length ≤ d.room + A[i].1.b.length) :
    RdAt S' w' bd vL (A.set i (f', v')) { d with L := putF d.L f' } := by
  have hil : i < d.L.length := by rw [← h.len]; exact hi
  have hfi := h.fst hi
  have hget : getF d.L f'.name = some A[i].1 := by rw [hn, hfi]; exact getF_of_mem h.rise (List.getElem_mem hil)
  have hpos : posF d.L f'.name = i := by rw [hn, hfi]; exact posF_self h.rise hil
  have hput : putF d.L f' = d.L.set i f' := by rw [putF_set h.rise hget, hpos]
  obtain ⟨s1, s2⟩ := sumB_putF (f := f') h.rise
  rw [hget] at s1 s2
  simp only [lenB, one] at s1 s2
  refine ⟨hS _ h.sd, h.blk.mod hm fun hF' => (h.ro bd (hF _ h.blk.lt hF')).2 rfl, hrow, fun k hk => ⟨hS k (h.ro k hk).1, (h.ro k hk).2⟩, by rw [List.map_set, h.nm, hput], fun a ha => ?_, rise_putF h.rise, fun f hf => ?_, ?_, h.most, ?_, h.lf⟩
  · rcases List.mem_or_eq_of_mem_set ha with ha | rfl
    · exact ((h.fb a ha).mod hm fun k hk hs hF' => hs.2.2 (hF k hk hF')).mono fun k _ hs => ⟨hS k hs.1, hs.2⟩
    · exact hb.mono hT
  · rcases (mem_putF h.rise f).1 hf with rfl | ⟨h1, _⟩
    · exact hl
    · exact h.fl f h1
  · show sumB (putF d.L f') ≤ d.room
    omega
  · show (putF d.L f').length ≤ 4096
    have := h.few
    omega
theorem RdAt.found (h : RdAt S w bd vL A d) {x : List UInt8} {f : Fi} (hx : getF d.L x = some f) : ∃ (n : Nat) (v' : Value) (hi : n < A.length), n = posF d.L x ∧ A[n] = (f, v') ∧ Bs w (fun k => S k ∧ k ≠ bd ∧ ¬ own vL k) v' f.b := by
  have hps := posF_some h.rise hx
  obtain ⟨hil, hli⟩ := List.getElem?_eq_some_iff.1 hps
  have hi : posF d.L x < A.length := by rw [h.len]; exact hil
  have h1 := h.fst hi
  rw [hli] at h1
  refine ⟨_, A[posF d.L x].2, hi, rfl, ?_, ?_⟩
  · rw [← h1]
  · have := h.fb _ (List.getElem_mem hi)
    rw [h1] at this
    exact this
theorem fresh_new {B g n c : Nat} (h : B ≤ g) : Fresh B (.slice (some ⟨g, 0, none⟩) n c) := fun k hk => by have : g = k := Option.some.inj hk; omega
theorem len_of_mem {L : Fis} (hr : Rise L) {f : Fi} (hf : f ∈ L) : f.b.length ≤ sumB L := by
  have := sumB_delF (x := f.name) hr
  rw [getF_of_mem hr hf] at this
  simp only [lenB] at this
  omega
theorem RdAt.rd (h : RdAt S w bd vL A d) : Dz S w (pv bd) d := ⟨bd, vL, A, rfl, h⟩
set_option maxHeartbeats 8000000 in
theorem rsync_any (h : Dz S w v d) (x : List UInt8) :
    Calls Tryd.prog 57 #[v, sv x] w fun e w' => e = .returned (ev (syncD d x).2) ∧ Dz (Grow S w) w' v (syncD d x).1 ∧ Mod S w w' := by
  obtain ⟨bd, vL, A, rfl, h⟩ := h
  have xa : Ext w (w.alloc (.cells #[sv x] 9)) := (Mod.refl _ _).alloc _
  have hcm := rmay_any (h.mod xa (fun _ _ _ h => h)) (one_name w x) (by simp)
  by_cases hb : begD d [x] = 0
  case neg =>
    have hn := n_ne0 hb
    have hd := h.rd
    rw [syncD, onF_err _ hb]
    clear h hb
    generalize begD d [x] = n at *
    go_enter Tryd.func57, Tryd.ntmps57
    go_wp2_with fail
    refine hcm.mono ?_
    rintro e w1 ⟨rfl, x1⟩
    clear hcm
    go_wp2_with fail
    go_ret
    exact ⟨rfl, (hd.ext (ext_trans xa x1)).grow w, (ext_trans xa x1).mono fun _ _ h => h.elim⟩
  rw [hb] at hcm
  have hcs := fun (w' : World) (x1 : Ext w w') => spot_any (h.mod x1 (fun _ _ _ h => h)) x
  cases hx : getF d.L x with
  | none =>
    have hd := h.rd
    rw [syncD, onF_none _ hb hx]
    rw [hx] at hcs
    clear h hb hx
    generalize posF d.L x = n at *
    go_enter Tryd.func57, Tryd.ntmps57
    go_wp2_with fail
    refine hcm.mono ?_
    rintro e w1 ⟨rfl, x1⟩
    clear hcm
    replace hcs := hcs _ (ext_trans xa x1)
    go_wp2_with fail
    refine hcs.mono ?_
    rintro e w2 ⟨rfl, x2⟩
    clear hcs
    go_wp2_with fail
    go_ret
    exact ⟨rfl, (hd.ext (ext_trans (ext_trans xa x1) x2)).grow w, (ext_trans (ext_trans xa x1) x2).mono fun _ _ h => h.elim⟩
  | some f =>
    obtain ⟨n, vb, hiA, hn, hA, hvi⟩ := h.found hx
    obtain rfl := getF_name hx
    rw [syncD, onF_some _ hb hx]
    rw [hx, ← hn] at hcs
    have hlf := begD_left hb
    have hlen := h.len
    have hfl := h.fl f (getF_mem hx)
    clear hb hx hn
    have c1 : w.cell? ⟨bd, 1, none⟩ = some vL := h.blk.cell 1
    obtain ⟨ad, c, rfl, p1, p2, p3⟩ := h.at_
    obtain ⟨p, rfl⟩ := p3 (by omega)
    clear p3
    have hfew := h.few
    obtain ⟨B, cb, rfl, e1, e2, e3, e4⟩ := hvi.open_
    have hat := fun (w' : World) (x1 : Ext w w') => (h.row.ext x1).at3 (i := n) hiA
    rw [hA] at hat
    go_enter Tryd.func57, Tryd.ntmps57
    go_wp2_with fail
    refine hcm.mono ?_
    rintro e w1 ⟨rfl, x1⟩
    clear hcm
    replace hcs := hcs _ (ext_trans xa x1)
    go_wp2_with fail
    refine hcs.mono ?_
    rintro e w2 ⟨rfl, x2⟩
    have y2 := ext_trans (ext_trans xa x1) x2
    clear hcs xa x1 x2
    have d1 : w2.cell? ⟨bd, 1, none⟩ = some (.slice (some p) d.L.length c) := (y2.cell (lt_of_cell c1) (fun h => h)).trans c1
    obtain ⟨r1, r2, r3, r4, r5, r6⟩ := hat _ y2
    have hi0 : (0 : Int) ≤ (n : Int) := by omega
    have hi1 : (n : Int) < (d.L.length : Int) := by omega
    have r62 := r6 2
    have r61 := r6 1
    have hzs := y2.size
    have h2 := h.mod y2 (fun _ _ _ h => h)
    obtain ⟨k1, k2⟩ := h2.row.set3 hiA (j := 2) (u := .int .i64 (f.b.length : Int)) (a' := (⟨f.name, f.b, f.b.length⟩, .slice B f.b.length cb)) (by omega) (by rw [hA]; rfl)
    have m3 := k2.drew
    have h3 := h2.turn (S' := S) hiA (f' := ⟨f.name, f.b, f.b.length⟩) (v' := .slice B f.b.length cb) (by rw [hA]) m3 (fun k _ hk => hk ▸ r2) (k1.ext (Mod.refl _ _).drew) (T := fun k => S k ∧ k ≠ bd ∧ ¬ own (.slice (some p) d.L.length c) k) ((hvi.mod y2 (fun _ _ _ h => h)).mod m3 fun k _ hs e => hs.2.2 (e ▸ r2)) (fun _ _ h => h) (fun _ h => h) (Nat.le_refl _) (by rw [hA]; exact Nat.add_le_add_right h.room _)
    have hcd := did_any h3
    have hSd := h.sd
    have hSp := (h.ro _ r2).1
    clear hat r6 c1 h h2 h3 k1 hvi hA e4
    go_wp2_with fail
    go_region
    go_wp2_with fail
    refine hcd.mono ?_
    rintro e w4 ⟨rfl, h4, m4⟩
    clear hcd
    go_wp2_with fail
    go_ret
    exact ⟨rfl, h4.rd.grow w, ((y2.mono (G := S) fun _ _ h => h.elim).then_ m3 fun k _ hk => hk ▸ hSp).then_ m4 fun k _ hk => hk ▸ hSd⟩
end
end Go.Proofs.YtblfhonfjljndaaDoor
namespace Go.Proofs.YtblfhonfjljndaaDoor
open Go.RowKit Go.Maps Go.WideMaps
set_option maxRecDepth 100000

section
variable {S T F : Nat → Prop} {w w' : World} {bd : Nat} {vL v : Value} {A : List (Fi × Value)} {d : Ds}
end
end Go.Proofs.YtblfhonfjljndaaDoor
