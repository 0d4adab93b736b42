/- ledger: a Ledger in memory; its names, Last, Base. -/
import Derived.Test.YtnmfkfjeihjkeaaDoorKlA
import Derived.Deep.RegionHeld3
namespace Go.Proofs.YtnmfkfjeihjkeaaDoor
open Go.RowKit Go.Maps Go.WideMaps
set_option maxRecDepth 100000

def imgN (p : List UInt8) : List UInt8 := p ++ [45, 105, 109, 103]
def logN (p : List UInt8) : List UInt8 := p ++ [45, 108, 111, 103]
structure Lst where
  p : List UInt8
  base : Nat
  data : List UInt8
  es : Tx
  dead : Bool
def lastL5 (l : Lst) : Nat := l.base + l.es.length
abbrev lcells (bd : Nat) (l : Lst) (dv ew : Value) : Array Value := #[pv bd, sv l.p, .int .i64 (l.base : Int), dv, ew, .bool l.dead]
structure LgAt (U : Nat → Prop) (w : World) (g bd : Nat) (dv ew : Value) (vs : List Value) (l : Lst) : Prop where
  sg : U g
  blk : Blk w g 103 (lcells bd l dv ew)
  dat : Bs w (fun k => U k ∧ k ≠ g ∧ ¬ own ew k) dv l.data
  ents : Own w 32 ew vs
  entU : ∀ k, own ew k → U k ∧ k ≠ g
  len : vs.length = l.es.length
  els : ∀ (k : Nat) (x : Value) (e : List UInt8), vs[k]? = some x → l.es[k]? = some e → Bs w (fun k => U k ∧ k ≠ g ∧ ¬ own ew k) x e
  small : ∀ e ∈ l.es, e.length ≤ 1000000
  pl : l.p.length ≤ 20
  bb : l.base ≤ 1099511627776
  dl : l.data.length ≤ 1000000
  el : l.es.length ≤ 100000
section
variable {U V F : Nat → Prop} {w w' : World} {g bd : Nat} {dv ew : Value} {vs : List Value} {l : Lst}
theorem LgAt.mod (h : LgAt U w g bd dv ew vs l) (hm : Mod F w w') (hn : ∀ k, k < w.heap.size → U k → ¬ F k) : LgAt U w' g bd dv ew vs l where
  sg := h.sg
  blk := h.blk.mod hm (hn _ h.blk.lt h.sg)
  dat := h.dat.mod hm fun k hk hs => hn k hk hs.1
  ents := h.ents.mod hm fun k hk => hn k (h.ents.lt hk) (h.entU k hk).1
  entU := h.entU
  len := h.len
  els := fun k x e h1 h2 => (h.els k x e h1 h2).mod hm fun k hk hs => hn k hk hs.1
  small := h.small
  pl := h.pl
  bb := h.bb
  dl := h.dl
  el := h.el
theorem LgAt.mono (h : LgAt U w g bd dv ew vs l) (hn : ∀ k, k < w.heap.size → U k → V k) : LgAt V w g bd dv ew vs l where
  sg := hn _ h.blk.lt h.sg
  blk := h.blk
  dat := h.dat.mono fun k hk hs => ⟨hn k hk hs.1, hs.2⟩
  ents := h.ents
  entU := fun k hk => ⟨hn k (h.ents.lt hk) (h.entU k hk).1, (h.entU k hk).2⟩
  len := h.len
  els := fun k x e h1 h2 => (h.els k x e h1 h2).mono fun k hk hs => ⟨hn k hk hs.1, hs.2⟩
  small := h.small
  pl := h.pl
  bb := h.bb
  dl := h.dl
  el := h.el
theorem LgAt.ext (h : LgAt U w g bd dv ew vs l) (hm : Ext w w') : LgAt U w' g bd dv ew vs l := h.mod hm fun _ _ _ h => h
/-- A Disk and a Ledger on it, apart, all in blocks of X. -/
def LD (X : Nat → Prop) (w : World) (bd : Nat) (d : Ds) (g : Nat) (l : Lst) : Prop :=
  ∃ T U dv ew vs, Dk T w (pv bd) d ∧ LgAt U w g bd dv ew vs l ∧ (∀ k, T k → ¬ U k) ∧ (∀ k, k < w.heap.size → T k → X k) ∧ (∀ k, k < w.heap.size → U k → X k)
set_option maxHeartbeats 2000000 in
theorem img_any (h : Blk w g 103 (lcells bd l dv ew)) (hpl : l.p.length ≤ 20) :
    Calls Tryd.prog 66 #[pv g] w fun e w' => e = .returned (sv (imgN l.p)) ∧ w' = w := by
  have c1 : w.cell? ⟨g, 1, none⟩ = some (sv l.p) := h.cell 1
  have hcat : ((⟨l.p.toArray⟩ : ByteArray) ++ ⟨#[45, 105, 109, 103]⟩) = ⟨(imgN l.p).toArray⟩ := cat_data l.p [45, 105, 109, 103]
  have hno : ¬ 9223372036854775807 < l.p.length + 4 := by omega
  clear h
  generalize imgN l.p = x at *
  generalize l.p = p at *
  go_enter Tryd.func66, Tryd.ntmps66
  go_wp2_with fail
  go_ret
  exact ⟨rfl, rfl⟩
set_option maxHeartbeats 2000000 in
theorem log_any (h : Blk w g 103 (lcells bd l dv ew)) (hpl : l.p.length ≤ 20) :
    Calls Tryd.prog 72 #[pv g] w fun e w' => e = .returned (sv (logN l.p)) ∧ w' = w := by
  have c1 : w.cell? ⟨g, 1, none⟩ = some (sv l.p) := h.cell 1
  have hcat : ((⟨l.p.toArray⟩ : ByteArray) ++ ⟨#[45, 108, 111, 103]⟩) = ⟨(logN l.p).toArray⟩ := cat_data l.p [45, 108, 111, 103]
  have hno : ¬ 9223372036854775807 < l.p.length + 4 := by omega
  clear h
  generalize logN l.p = x at *
  generalize l.p = p at *
  go_enter Tryd.func72, Tryd.ntmps72
  go_wp2_with fail
  go_ret
  exact ⟨rfl, rfl⟩
set_option maxHeartbeats 2000000 in
theorem last5_any (h : LgAt U w g bd dv ew vs l) :
    Calls Tryd.prog 37 #[pv g] w fun e w' => e = .returned (.int .i64 (lastL5 l : Nat)) ∧ ∃ k, w' = w.drewN k := by
  have c2 : w.cell? ⟨g, 2, none⟩ = some (.int .i64 (l.base : Int)) := h.blk.cell 2
  have c4 : w.cell? ⟨g, 4, none⟩ = some ew := h.blk.cell 4
  obtain ⟨A, c, rfl⟩ := h.ents.shape
  have hl := h.len
  rw [hl] at c4
  have hb := h.bb
  have he := h.el
  clear h
  go_enter Tryd.func37, Tryd.ntmps37
  go_wp2_with fail
  go_quiet (fail)
  go_wp2_with fail
  go_ret
  exact ⟨rfl, _, rfl⟩
set_option maxHeartbeats 4000000 in
theorem base_any (h : LgAt U w g bd dv ew vs l) :
    Calls Tryd.prog 39 #[pv g] w fun e w' => ∃ u, e = .returned (.tuple #[.int .i64 (l.base : Nat), u]) ∧ Own w' 5 u (l.data.map bv) ∧ Fresh w.heap.size u ∧ Ext w w' := by
  have c2 : w.cell? ⟨g, 2, none⟩ = some (.int .i64 (l.base : Int)) := h.blk.cell 2
  have c3 : w.cell? ⟨g, 3, none⟩ = some dv := h.blk.cell 3
  obtain ⟨A, c, rfl, h1, h2, h3, h4⟩ := h.dat.open_
  have hcc : ∀ {wx : World}, Ext w wx → wx.cell? ⟨g, 2, none⟩ = some (.int .i64 (l.base : Int)) ∧ wx.cell? ⟨g, 3, none⟩ = some (.slice A l.data.length c) := fun q => ⟨(q.cell (lt_of_cell c2) (fun h => h)).trans c2, (q.cell (lt_of_cell c3) (fun h => h)).trans c3⟩
  have hj : Calls Tryd.prog 70 #[.slice (some ⟨w.heap.size, 0, none⟩) 1 1] ((w.alloc (.cells #[.slice A l.data.length c] 32)).drew) fun e w' => ∃ v', e = .returned v' ∧ Own w' 5 v' (l.data.map bv) ∧ Fresh w.heap.size v' ∧ Ext w w' := by
    have hr := (Rw.one 32 h.dat).mod ((Mod.refl (fun _ => False) _).drew) (fun _ _ _ h => h)
    refine (join_any hr (by have := h.dl; simp; omega)).mono fun e w' ⟨v', q1, q2, q3, q4⟩ => ⟨v', q1, by simpa using q2, q3.mono (by simp [World.drew]), ext_trans ((Mod.refl _ w).alloc _).drew q4⟩
  clear h h4
  generalize l.data.map bv = D at *
  generalize l.data.length = n at *
  generalize l.base = b at *
  have q0 : Ext w w.drew := (Mod.refl _ w).drew
  have qE : Ext w ((w.alloc (.cells #[.slice A n c] 32)).drew) := ((Mod.refl _ w).alloc _).drew
  go_enter Tryd.func39, Tryd.ntmps39
  go_wp2_with fail
  go_region_held3 (fun wx => wx.cell? ⟨g, 2, none⟩ = some (.int .i64 (b : Int)) ∧ wx.cell? ⟨g, 3, none⟩ = some (.slice A n c)) (first | exact hcc q0 | exact hcc qE | exact hcc q1)
    (first
      | (go_at_call 70; (with_reducible refine hj.mono ?_); rintro e w1 ⟨v1, rfl, o1, f1, q1⟩))
  all_goals go_wp2_with fail
  all_goals go_ret2
  all_goals exact ⟨_, rfl, o1, f1, q1⟩
end
end Go.Proofs.YtnmfkfjeihjkeaaDoor
