/- table: take. -/
import Derived.Test.YthohghnfiicndaaDoorTabI
import Derived.Deep.CutBlock
namespace Go.Proofs.YthohghnfiicndaaDoor
open Go.RowKit Go.Maps Go.WideMaps
set_option maxRecDepth 100000

abbrev Mt (g bm b : Nat) : Nat → Prop := fun k => k = g ∨ k = bm ∨ k = b
abbrev Tt (w : World) (g bm : Nat) : Nat → Prop := fun k => k = g ∨ k = bm ∨ w.heap.size ≤ k
/-- While a Table is read: the reader at block b, the Table at block g. -/
structure Tk (w : World) (g bm b : Nat) (Sr S : Nat → Prop) (wx : World) (vr : Value) (st : Option (List UInt8)) (ve : Value) (D : DataW Unit) (acc : List Bv) : Prop where
  r : Rd wx b Sr vr st
  t : TbAt S wx g bm ve (.slice none 0 0) D acc 0 []
  m : Mod (Mt g bm b) w wx
  bl : b < w.heap.size
  bg : b ≠ g
  bb : b ≠ bm
  sr : ∀ k, Sr k → k < w.heap.size ∧ k ≠ g ∧ k ≠ bm
  sub : ∀ k, S k → Tt w g bm k
section
variable {w wx w' : World} {g bm b : Nat} {Sr S F : Nat → Prop} {vr v' ve : Value} {st st' : Option (List UInt8)} {D : DataW Unit} {acc : List Bv}
theorem Tk.mod (h : Tk w g bm b Sr S wx vr st ve D acc) (hm : Mod F wx w') (h1 : ∀ k, k < wx.heap.size → S k → ¬ F k) (h2 : ∀ k, F k → w.heap.size ≤ k) : Tk w g bm b Sr S w' vr st ve D acc where
  r := h.r.mod hm (fun hf => by have := h2 _ hf; have := h.bl; omega) (fun k _ hk hf => by have := h2 _ hf; have := (h.sr k hk).1; omega)
  t := h.t.mod hm h1
  m := h.m.then_ hm (fun k hk hf => by have := h2 _ hf; omega)
  bl := h.bl
  bg := h.bg
  bb := h.bb
  sr := h.sr
  sub := h.sub
theorem Tk.ext (h : Tk w g bm b Sr S wx vr st ve D acc) (hm : Ext wx w') : Tk w g bm b Sr S w' vr st ve D acc := h.mod hm (fun _ _ _ h => h) (fun _ h => h.elim)
theorem Tk.offb (h : Tk w g bm b Sr S wx vr st ve D acc) {k : Nat} (hk : S k) : k ≠ b := by
  rintro rfl
  rcases h.sub k hk with e | e | e
  · exact h.bg e
  · exact h.bb e
  · have := h.bl; omega
theorem Tk.rd (h : Tk w g bm b Sr S wx vr st ve D acc) (r : Rd w' b Sr v' st') (hm : Mod (fun k => k = b) wx w') : Tk w g bm b Sr S w' v' st' ve D acc where
  r := r
  t := h.t.mod hm (fun k _ hk hf => h.offb hk hf)
  m := h.m.then_ hm (fun k _ hf => .inr (.inr hf))
  bl := h.bl
  bg := h.bg
  bb := h.bb
  sr := h.sr
  sub := h.sub
theorem Tk.cut (h : Tk w g bm b Sr S wx vr st ve D acc) : Tk w g bm b Sr (fun k => S k ∧ k < wx.heap.size) wx vr st ve D acc :=
  ⟨h.r, h.t.mono fun _ hk hs => ⟨hs, hk⟩, h.m, h.bl, h.bg, h.bb, h.sr, fun k hk => h.sub k hk.1⟩
/-- One more block. -/
theorem Tk.more {w1 w2 : World} {e : En} {cs : List Ce} {y ve' : Value} {D' : DataW Unit} {d : DataW Unit} (h : Tk w g bm b Sr S wx vr st ve D acc) (hb : Blk w2 g 72 (tcells ve' bm (.slice none 0 0) 0)) (ho : OwnR enl 2 w2 85 ve' ((acc.map fun x => x.1.1) ++ [e]))
    (hM : w2.ownsMap Tryd.prog 85 slE bm (acc.length + 1) D') (hD : D' = D.put (kE e) d) (hd : slE y = some (d, [])) (hx : Next wx.heap.size ve ve') (m1 : Mod (fun k => k = g ∨ own ve k) wx w1) (m2 : Mod (fun k => k = bm) w1 w2)
    (hc : OwnC wx y cs) (hy : ∀ k, own y k → w.heap.size ≤ k ∧ ¬ own ve k) (he : EFit e) (hn : hasV acc e = false) : Tk w g bm b Sr (Tt w g bm) w2 vr st ve' D' (acc ++ [((e, cs), y)]) := by
  have hve : ∀ k, own ve k → w.heap.size ≤ k := fun k hk => by
    have h1 := h.t.off_e hk
    rcases h.sub k (h.t.se k hk) with e | e | e
    · exact absurd e h1.1
    · exact absurd e h1.2
    · exact e
  have hmm : Mod (fun k => (k = g ∨ own ve k) ∨ k = bm) wx w2 := m1.trans m2 (fun _ _ h => .inl h) (fun _ _ h => .inr h)
  have hgl := h.t.blk.lt
  have hws := h.m.size
  have hglw : g < w.heap.size ∨ w.heap.size ≤ g := by omega
  refine ⟨h.r.mod hmm ?_ ?_, ⟨hb, by rw [List.map_append]; exact ho, by rw [List.length_append]; exact hM, ?_, ?_, Own.nil _ _, .inl rfl, .inr (.inl rfl), ?_, (fun k hk => by cases hk), ?_, ?_⟩, h.m.then_ hmm ?_, h.bl, h.bg, h.bb, h.sr, fun k hk => hk⟩
  · rintro ((e | e) | e)
    · exact h.bg e
    · have := hve _ e; have := h.bl; omega
    · exact h.bb e
  · rintro k - hk ((e | e) | e)
    · exact (h.sr k hk).2.1 e
    · have := hve _ e; have := (h.sr k hk).1; omega
    · exact (h.sr k hk).2.2 e
  · rw [hD]
    exact h.t.of.put (x := ((e, cs), y)) h.t.fit he hn hd
  · intro x hx
    rcases List.mem_append.1 hx with hx | hx
    · refine (h.t.cells x hx).mod hmm fun k hk => ?_
      obtain ⟨a1, a2, a3⟩ := h.t.off_c hx hk
      rintro ((e | e) | e)
      · exact a1 e
      · exact a3 e
      · exact a2 e
    · rw [List.mem_singleton.1 hx]
      refine hc.mod hmm fun k hk => ?_
      obtain ⟨cur, hcu⟩ := OwnR.ty hc hk
      rintro ((e | e) | e)
      · rw [e] at hcu; exact absurd (hcu.ty_eq h.t.blk) (by decide)
      · exact (hy k hk).2 e
      · exact hcu.ne_map h.t.map e
  · intro k hk
    rcases hx with hx | hx
    · exact .inr (.inr (hve k (by show ve.ownBlock = some k; rw [← hx]; exact hk)))
    · have := hx k hk; exact .inr (.inr (by omega))
  · intro x hx k hk
    rcases List.mem_append.1 hx with hx | hx
    · exact h.sub k (h.t.sc x hx k hk)
    · rw [List.mem_singleton.1 hx] at hk
      exact .inr (.inr (hy k hk).1)
  · intro x hx
    rcases List.mem_append.1 hx with hx | hx
    · exact h.t.fit x hx
    · rw [List.mem_singleton.1 hx]; exact he
  · rintro k hk ((e | e) | e)
    · exact .inl e
    · have := hve _ e; omega
    · exact .inr (.inl e)
end
end Go.Proofs.YthohghnfiicndaaDoor
