/- ledger: the log read. -/
import Derived.Test.YtnmfkfjeihjkeaaDoorKlI
namespace Go.Proofs.YtnmfkfjeihjkeaaDoor
open Go.RowKit Go.Maps Go.WideMaps
set_option maxRecDepth 100000

section
variable {T U V X : Nat → Prop} {w w' wa : World} {g bd : Nat} {dv ew y : Value} {vs : List Value} {l : Lst} {d d' : Ds} {b : List UInt8} {n : Nat}
theorem LDk.ext (H : LDk X w bd d g l) (hx : Ext w wa) : LDk X wa bd d g l := by
  obtain ⟨T, U, dv, ew, vs, h1, h2, h3, h4, h5⟩ := H
  exact ⟨T, U, dv, ew, vs, h1.ext hx, h2.ext hx, h3, fun k hk => ⟨(h4 k hk).1, Nat.lt_of_lt_of_le (h4 k hk).2 hx.size⟩, fun k hk => ⟨(h5 k hk).1, Nat.lt_of_lt_of_le (h5 k hk).2 hx.size⟩⟩
theorem LDk.blk (H : LDk X w bd d g l) : ∃ dv ew, Blk w g 103 (lcells bd l dv ew) := by
  obtain ⟨T, U, dv, ew, vs, h1, h2, h3, h4, h5⟩ := H
  exact ⟨dv, ew, h2.blk⟩
theorem LDk.pl (H : LDk X w bd d g l) : l.p.length ≤ 20 := by
  obtain ⟨T, U, dv, ew, vs, h1, h2, h3, h4, h5⟩ := H
  exact h2.pl
theorem LDk.d0 (H : LDk X w bd d g l) : w.cell? ⟨g, 0, none⟩ = some (pv bd) := by
  obtain ⟨dv, ew, h⟩ := H.blk
  exact h.cell 0
theorem LDk.log (H : LDk X w bd d g l) : Calls Tryd.prog 72 #[pv g] w fun e w' => e = .returned (sv (logN l.p)) ∧ w' = w := by
  obtain ⟨dv, ew, h⟩ := H.blk
  exact log_any h H.pl
theorem LDk.d4 (H : LDk X w bd d g l) : ∃ A c, w.cell? ⟨g, 4, none⟩ = some (.slice A l.es.length c) := by
  obtain ⟨T, U, dv, ew, vs, h1, h2, h3, h4, h5⟩ := H
  obtain ⟨A, c, h⟩ := h2.ents.shape
  have := h2.blk.cell 4
  rw [h, h2.len] at this
  exact ⟨A, c, this⟩
theorem ldk_call {P : Program} {f : FuncId} {args : Array Value} {E : Ending → Prop} (H : LDk X w bd d g l) (hup : ∀ k, w.heap.size ≤ k → X k) (hx : Ext w wa)
    (hc : ∀ T, (∀ k, T k → X k ∧ k < w.heap.size) → Dk T wa (pv bd) d → Calls P f args wa fun e w' => E e ∧ Dk (Grow T wa) w' (pv bd) d' ∧ Mod T wa w') :
    Calls P f args wa fun e w' => E e ∧ LDk X w' bd d' g l ∧ Mod X w w' := by
  obtain ⟨T, U, dv, ew, vs, h1, h2, h3, h4, h5⟩ := H
  refine (hc T h4 (h1.ext hx)).mono fun e w' ⟨q1, q2, q3⟩ => ⟨q1, ⟨_, U, dv, ew, vs, q2.cut, (h2.ext hx).mod q3 (fun k _ hk ht => h3 k ht hk), ?_, fun k hk => ⟨?_, hk.2⟩, fun k hk => ⟨(h5 k hk).1, ?_⟩⟩, (hx.mono fun _ _ h => h.elim : Mod X w wa).then_ q3 fun k _ ht => (h4 k ht).1⟩
  · rintro k ⟨hk, _⟩ hu
    rcases hk with hk | hk
    · exact h3 k hk hu
    · have h6 := (h5 k hu).2
      have := hx.size
      omega
  · rcases hk.1 with hk | hk
    · exact (h4 k hk).1
    · exact hup k (Nat.le_trans hx.size hk)
  · have h6 := (h5 k hk).2
    have := hx.size
    have := q3.size
    omega
theorem sepX {U : Nat → Prop} {w : World} (h : ∀ k, U k → X k ∧ k < w.heap.size) (k : Nat) (hk : k = w.heap.size) : ¬ U k := fun hu => by have := (h k hu).2; omega
set_option maxHeartbeats 8000000 in
theorem rlog_none (h : Dk T w (pv bd) d) (hl : LgAt U w g bd dv ew vs l) (he : readD d (logN l.p) = none) :
    Calls Tryd.prog 68 #[pv g] w fun e w' => e = .returned (.int .i64 0) ∧ Ext w w' := by
  have hcc : ∀ {wj : World}, Ext w wj → wj.cell? ⟨g, 0, none⟩ = some (pv bd) := fun q => (hl.blk.mod q (fun h => h)).cell 0
  have q0 : Ext w w.drew := (Mod.refl _ w).drew
  have hlog := log_any (hl.blk.mod q0 (fun h => h)) hl.pl
  have hld := read_any (h.ext q0) (logN l.p) (log_len hl.pl)
  rw [he, codeR_none] at hld
  clear h hl he
  generalize logN l.p = i at *
  go_enter Tryd.func68, Tryd.ntmps68
  go_wp2_with fail
  go_region_held3 (fun wx => wx.cell? ⟨g, 0, none⟩ = some (pv bd)) (first | exact hcc q0 | exact hkX)
    (first
      | (go_at_call 72; (with_reducible refine hlog.mono ?_); rintro e wx ⟨rfl, rfl⟩)
      | (go_at_call 31; (with_reducible refine hld.mono ?_); rintro e w4 ⟨u, rfl, o4, f4, q4⟩; have hkX := hcc (ext_trans q0 q4)))
  all_goals
    have x4 := ext_trans q0 q4
    clear hkX hcc hlog hld o4 f4 q4
    go_wp2_with fail
    go_ret
    exact ⟨rfl, x4⟩
end
end Go.Proofs.YtnmfkfjeihjkeaaDoor
