/- disk: a file cut, dropped, laid into the map. -/
import Derived.Test.YtagchhcpmibelaaDkE
namespace Go.Proofs.Ytagchhcpmibelaa
open Go.RowKit Go.Maps Go.WideMaps
set_option maxRecDepth 100000

theorem ob_len (A : Option Addr) (n m c : Nat) : (Value.slice A n c).ownBlock = (Value.slice A m c).ownBlock := by cases A <;> rfl
section
variable {S T : Nat → Prop} {w w' : World} {bd bm : Nat} {D : DataW Unit} {G : Lay} {d : Ds}
abbrev cutF (f : Fi) (n : Nat) : Fi := ⟨f.name, f.b.take n, min f.last n⟩
set_option maxHeartbeats 4000000 in
theorem cut_any3 (h : DkAt S w bd bm D G d) {f : Fi} (hf : f ∈ d.L) {n : Nat} (hn : n ≤ f.b.length) :
    Calls Try.prog 52 #[pv bd, pv (G f.name).1, .int .i64 n] w fun e w' => e = .returned (.tuple #[]) ∧ ∃ u, DkAt (fun k => S k ∨ w.heap.size ≤ k) w' bd bm D (upd G f.name ((G f.name).1, u)) { d with L := putF d.L (cutF f n) } ∧ Mod (fun k => k = bd ∨ k = (G f.name).1) w w' := by
  have hfb := h.fb f hf
  have hfo := h.fo f hf
  have hfl := h.fl f hf
  have hne : ¬ (G f.name).1 = bd := h.bd_ne hf
  have hne2 : ¬ bd = (G f.name).1 := fun e => hne e.symm
  obtain ⟨A, c, hv⟩ := hfo.shape
  rw [List.length_map] at hv
  have hroom := h.room
  have hmost := h.most
  have hsum := sumB_putF (f := cutF f n) h.rise
  rw [show (cutF f n).name = f.name from rfl, getF_of_mem h.rise hf] at hsum
  simp only [lenB, one, cutF, List.length_take] at hsum
  have hob := hfo
  rw [hv] at hob
  have hcap : f.b.length ≤ c := by simpa using own_cap hob
  have hobn := hob.begin (m := n) (by simpa using hn)
  rw [← List.map_take] at hobn
  have hbig : c ≤ 9223372036854775807 := by
    obtain ⟨A', c', e1, e2, e3, _⟩ := hob.sl
    injection e1 with _ _ e1
    subst e1
    simpa [maxLen] using e3
  have b1 : w.cell? ⟨bd, 1, none⟩ = some (.int .i64 (sumB d.L : Nat)) := h.blk.cell 1
  have z1 : w.frozen? ⟨bd, 1, none⟩ = false := h.blk.frozen 1
  have g0 : w.cell? ⟨(G f.name).1, 0, none⟩ = some (.slice A f.b.length c) := by rw [← hv]; exact hfb.cell 0
  have g1 : w.cell? ⟨(G f.name).1, 1, none⟩ = some (.int .i64 (f.last : Int)) := hfb.cell 1
  have y0 : w.frozen? ⟨(G f.name).1, 0, none⟩ = false := hfb.frozen 0
  have y1 : w.frozen? ⟨(G f.name).1, 1, none⟩ = false := hfb.frozen 1
  have hi0 : (0 : Int) ≤ (n : Int) := by omega
  have hi1 : (n : Int) ≤ (f.b.length : Int) := by omega
  have hi2 : (n : Int) ≤ (c : Int) := by omega
  have hlen : f.b.length ≤ sumB d.L := by
    have := sumB_delF (x := f.name) h.rise
    rw [getF_of_mem h.rise hf] at this
    simp only [lenB] at this
    omega
  have hu0 : (0 : Int) ≤ (f.b.length : Int) - (n : Int) := by omega
  have hw1 : IntKind.i64.wrap ((f.b.length : Int) - (n : Int)) = (f.b.length : Int) - (n : Int) := by rw [IntKind.wrap_i64]; omega
  have hw2 : IntKind.i64.wrap ((sumB d.L : Nat) - ((f.b.length : Int) - (n : Int))) = (sumB d.L : Nat) - ((f.b.length : Int) - (n : Int)) := by rw [IntKind.wrap_i64]; omega
  have hfin : ∀ x y : Int, x = (sumB d.L : Nat) - ((f.b.length : Int) - (n : Int)) → y = (min f.last n : Nat) →
      (∃ u, DkAt (fun k => S k ∨ w.heap.size ≤ k) (((w.setCell ⟨bd, 1, none⟩ (.int .i64 x)).setCell ⟨(G f.name).1, 0, none⟩ (.slice A n c)).setCell ⟨(G f.name).1, 1, none⟩ (.int .i64 y)).drew bd bm D (upd G f.name ((G f.name).1, u)) { d with L := putF d.L (cutF f n) }) ∧
        Mod (fun k => k = bd ∨ k = (G f.name).1) w (((w.setCell ⟨bd, 1, none⟩ (.int .i64 x)).setCell ⟨(G f.name).1, 0, none⟩ (.slice A n c)).setCell ⟨(G f.name).1, 1, none⟩ (.int .i64 y)).drew := by
    intro x y hx hy
    have hm : Mod (fun k => k = bd ∨ k = (G f.name).1) w (((w.setCell ⟨bd, 1, none⟩ (.int .i64 x)).setCell ⟨(G f.name).1, 0, none⟩ (.slice A n c)).setCell ⟨(G f.name).1, 1, none⟩ (.int .i64 y)).drew :=
      ((((Mod.refl _ w).setCell (p := ⟨bd, 1, none⟩) (fun _ => .inl rfl) _).setCell (p := ⟨(G f.name).1, 0, none⟩) (fun _ => .inr rfl) _).setCell (p := ⟨(G f.name).1, 1, none⟩) (fun _ => .inr rfl) _).drew
    have hx' : x = (sumB (putF d.L (cutF f n)) : Nat) := by
      have := hsum.1
      rw [Nat.min_eq_left hn] at this
      show x = (sumB (putF d.L ⟨f.name, f.b.take n, min f.last n⟩) : Nat)
      omega
    subst hx'
    subst hy
    have hb := ((h.blk.set_ 1 (.int .i64 (sumB (putF d.L (cutF f n)) : Nat))).far (p := ⟨(G f.name).1, 0, none⟩) hne2 (.slice A n c)).far (p := ⟨(G f.name).1, 1, none⟩) hne2 (.int .i64 (min f.last n : Nat))
    have hg := ((hfb.far (p := ⟨bd, 1, none⟩) hne (.int .i64 (sumB (putF d.L (cutF f n)) : Nat))).set_ 0 (.slice A n c)).set_ 1 (.int .i64 (min f.last n : Nat))
    refine ⟨⟨_, h.file hf hm (fun k _ hk => hk.elim .inl fun e => .inr (.inl e)) (u := .slice A n c) (.inl (by rw [hv]; exact ob_len _ _ _ _)) hb hg (hobn.mod hm fun k hk => ?_) ?_ ?_ ?_⟩, hm⟩
    · have hk' : own (G f.name).2 k := by rw [hv]; exact (ob_len _ _ _ _).trans hk
      rintro (rfl | e)
      · exact (h.own_ne hf hk').1 rfl
      · exact (h.own_ne hf hk').2.2 f hf e
    · show min f.last n ≤ (f.b.take n).length
      rw [List.length_take]; omega
    · show sumB d.L + (f.b.take n).length ≤ d.room + f.b.length
      rw [List.length_take]; omega
    · exact h.lf
  clear hsum hob hobn hfb hfo h hf hv hcap
  replace hfin := Lib.hid hfin
  generalize (G f.name).1 = g at *
  generalize f.b.length = m at *
  generalize sumB d.L = U at *
  go_enter Try.func52, Try.ntmps52
  go_wp2_with fail
  go_region
  all_goals go_wp2_with fail
  all_goals
    go_end0
    exact ⟨rfl, hfin.out _ _ rfl (by omega)⟩
end
end Go.Proofs.Ytagchhcpmibelaa
