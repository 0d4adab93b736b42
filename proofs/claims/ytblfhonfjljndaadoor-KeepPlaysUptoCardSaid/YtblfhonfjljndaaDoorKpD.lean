/- keep: the known case; no Disk. -/
import Derived.Test.YtblfhonfjljndaaDoorKpC
import Derived.Lib.SlBytesConst
namespace Go.Proofs.YtblfhonfjljndaaDoor
open Go.RowKit Go.Maps Go.WideMaps
set_option maxRecDepth 100000

section
variable {w w0 wj wa : World} {v y : Value} {d : Ds}
theorem Nib.ext (h : Nib w) (hx : Ext w wa) : Nib wa := h.mod hx (fun h => h)
theorem hold_save (H : Hold w0 wj v d) (hx : Ext wj wa) (x : List UInt8) (hl : x.length ≤ 1000000) {T : Nat → Prop} {P : Tx} (hy : Rw wa T y P) (hN : Nib w0) (hp : P.flatten.length ≤ 1048576) {d' : Ds} {n : Nat} (he : saveD d x P.flatten = (d', n)) :
    Calls Tryd.prog 8 #[v, sv x, y] wa fun e w' => e = .returned (ev n) ∧ Hold w0 w' v d' := by
  have := held_call (d' := (saveD d x P.flatten).1) H hx fun U _ hdk => save_any hdk x hl hy (hN.ext (ext_trans H.xt hx)) hp
  rw [he] at this
  exact this.mono fun e w' ⟨h1, h2, _⟩ => ⟨h1, h2⟩
theorem hold_crash (H : Hold w0 wj v d) (draw : Int) (hd : draw ≤ 9223372036854775807) {d' : Ds} (he : crashD draw d = d') :
    Calls Tryd.prog 15 #[v, .int .i64 draw] wj fun e w' => e = .returned (.tuple #[]) ∧ Hold w0 w' v d' := by
  subst he
  exact (held_call H (Mod.refl _ _) fun U _ hdk => crash_any hdk draw hd).mono fun e w' ⟨h1, h2, _⟩ => ⟨h1, h2⟩
theorem hold_load (H : Hold w0 wj v d) (x : List UInt8) (hl : x.length ≤ 1000000) (hN : Nib w0) {p : List UInt8} {n : Nat} (he : loadD d x = (p, n)) :
    Calls Tryd.prog 10 #[v, sv x] wj fun e w' => ∃ u, e = .returned (.tuple #[u, ev n]) ∧ Own w' 5 u (p.map bv) ∧ Fresh wj.heap.size u ∧ Ext wj w' ∧ Hold w0 w' v d := by
  have hN2 := hN.ext H.xt
  have H2 := H
  obtain ⟨T, h1, _⟩ := H
  have := load_any h1 x hl hN2
  rw [he] at this
  exact this.mono fun e w' ⟨u, q1, q2, q3, q4⟩ => ⟨u, q1, q2, q3, q4, H2.ext q4⟩
end
theorem lit_two (w : World) (l m : List UInt8) (f1 f2 : Nat × Nat) (hl : l.length ≤ 1000) (hm : m.length ≤ 1000) :
    ∃ T, Rw (((w.alloc (.cells (l.map bv).toArray 5 f1)).alloc (.cells (m.map bv).toArray 5 f2)).alloc (.cells #[.slice (some ⟨w.heap.size, 0, none⟩) l.length l.length, .slice (some ⟨w.heap.size + 1, 0, none⟩) m.length m.length] 32)) T (.slice (some ⟨w.heap.size + 1 + 1, 0, none⟩) 2 2) [l, m] := by
  have b1 := Bs.text w 5 l f1 (by simp only [maxLen]; omega)
  have b2 := Bs.text (w.alloc (.cells (l.map bv).toArray 5 f1)) 5 m f2 (by simp only [maxLen]; omega)
  have := Rw.two 32 (b1.alloc (.cells (m.map bv).toArray 5 f2)) b2
  rw [show (w.alloc (.cells (l.map bv).toArray 5 f1)).heap.size = w.heap.size + 1 by simp, show ((w.alloc (.cells (l.map bv).toArray 5 f1)).alloc (.cells (m.map bv).toArray 5 f2)).heap.size = w.heap.size + 1 + 1 by simp] at this
  exact ⟨_, this⟩
set_option maxHeartbeats 8000000 in
theorem known4_any {w : World} (hN : Nib w) : Calls Tryd.prog 5 #[] w fun e w' => e = .returned (.bool true) ∧ Ext w w' := by
  have kc := fun (w : World) (C : Array Value) (n c : Nat) => Lib.run_convert_bytes_const (P := Tryd.prog) w 32 5 C n c Tryd.underlying32 Tryd.underlying5
  have kc2 : ∀ (w : World) (o : Obj) (C : Array Value) (n c : Nat), (convert 32 32 (.slice (some ⟨w.heap.size + 1, 0, none⟩) n c)).run Tryd.prog ((w.alloc o).alloc (.cells C 5)) = .ok (.slice (some ⟨w.heap.size + 1, 0, none⟩) n c) ((w.alloc o).alloc (.cells C 5 (C.size, C.size + 1))) := fun w o C n c => by
    have := kc (w.alloc o) C n c
    rwa [show (w.alloc o).heap.size = w.heap.size + 1 by simp] at this
  have e1 : saveD (newD 1000) [97] ([[49, 50], [51]] : Tx).flatten = (⟨1000, [⟨[97], frec [49, 50, 51], 15⟩], false, 0⟩, 0) := by
    have := save_ok (r := 1000) (l := 0) (L := []) (fu := false) (x := [97]) (p := [49, 50, 51]) List.Pairwise.nil (by decide) (by decide) rfl (by decide) (by decide) (by decide)
    rw [frec_len] at this
    exact this
  have e2 : crashD 0 ⟨1000, [⟨[97], frec [49, 50, 51], 15⟩], false, 0⟩ = ⟨1000, [⟨[97], frec [49, 50, 51], 15⟩], false, 0⟩ := crash_all (by
    intro f hf
    rw [List.mem_singleton] at hf
    subst hf
    rw [frec_len]; rfl)
  have e3 : loadD ⟨1000, [⟨[97], frec [49, 50, 51], 15⟩], false, 0⟩ [97] = ([49, 50, 51], 0) := load_saved (n := 15) rfl (by decide)
  go_enter Tryd.func5, Tryd.ntmps5
  go_wp2_with fail
  refine (new_hold (w0 := w) 1000 (by omega) (by omega) (Mod.refl _ _)).mono ?_
  rintro e w1 ⟨bd, rfl, H1⟩
  obtain ⟨T, hr⟩ := lit_two w1 [49, 50] [51] (2, 3) (1, 2) (by decide) (by decide)
  have hc := hold_save H1 ((((Mod.refl _ w1).alloc _).alloc _).alloc _) [97] (by decide) hr hN (by decide) e1
  clear hr H1
  go_wp2_with fail
  refine hc.mono ?_
  rintro e w2 ⟨rfl, H2⟩
  have hc1 := hold_crash H2 0 (by decide) e2
  clear hc H2
  go_wp2_with fail
  refine hc1.mono ?_
  rintro e w3 ⟨rfl, H3⟩
  have hc2 := hold_load H3 [97] (by decide) hN e3
  clear hc1 H3
  go_wp2_with fail
  refine hc2.mono ?_
  rintro e w4 ⟨u, rfl, o4, f4, x4, H4⟩
  have xa : Ext w4 (w4.alloc (.cells ([49, 50, 51].map bv).toArray 5 (3, 4))) := (Mod.refl _ _).alloc _
  have hc3 := same_any (o4.mod xa (fun _ _ h => h)).sl (Bs.text w4 5 [49, 50, 51] (3, 4) (by simp [maxLen]))
  rw [dtrue rfl] at hc3
  have y4 := ext_trans H4.xt xa
  clear hc2 f4 x4 o4 H4 xa
  go_wp2_with fail
  refine hc3.mono ?_
  rintro e w5 ⟨rfl, k5, rfl⟩
  clear hc3
  go_wp2_with fail
  go_ret
  exact ⟨rfl, y4.drewN k5⟩
end Go.Proofs.YtblfhonfjljndaaDoor
