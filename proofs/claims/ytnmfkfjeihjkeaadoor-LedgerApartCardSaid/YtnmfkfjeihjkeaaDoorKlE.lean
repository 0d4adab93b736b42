/- ledger: numbered, names, remove; a Ledger in memory. -/
import Derived.Test.YtnmfkfjeihjkeaaDoorKpH
import Derived.Test.YtnmfkfjeihjkeaaDoorFrmI
import Derived.Deep.RegionHeld3
import Derived.Test.YtnmfkfjeihjkeaaDoorAppS
import Derived.Deep.RegionLaw
namespace Go.Proofs.YtnmfkfjeihjkeaaDoor
open Go.RowKit Go.Maps Go.WideMaps
set_option maxRecDepth 100000

/-- A number, and bytes. -/
def numB (n : Nat) (p : List UInt8) : List UInt8 := enc7 n ++ (enc7 p.length ++ p)
theorem encs_one' (n : Nat) (h : n ≤ 4611686018427387904) : encs [(n : Int)] = enc7 n := by
  have : clamp (n : Int) = n := by unfold clamp; omega
  simp [encs, this]
theorem encr_one' (p : List UInt8) : encr [p] = enc7 p.length ++ p := by simp [encr]
set_option maxHeartbeats 4000000 in
theorem numbered_any {w : World} {S : Nat → Prop} {y : Value} {p : List UInt8} {n : Nat} (hy : Bs w S y p) (hS : ∀ k, S k → k < w.heap.size) (hn : n ≤ 1099511627777) (hp : p.length ≤ 1000000) :
    Calls Tryd.prog 99 #[.int .i64 (n : Int), y] w fun e w' => ∃ u, e = .returned u ∧ Own w' 5 u ((numB n p).map bv) ∧ Fresh w.heap.size u ∧ Ext w w' := by
  obtain ⟨A0, c0, rfl, -⟩ := hy.open_
  have hw0 : ∀ w : World, Wr (w.alloc (.cells #[.slice none 0 0] 153)) w.heap.size (.slice none 0 0) [] := fun w => ⟨Blk.new _ _ _, Own.nil _ _⟩
  have hnum : numB n p = [] ++ encs [(n : Int)] ++ encr [p] := by rw [encs_one' n (by omega), encr_one']; simp [numB]
  rw [hnum]
  have he1 : (encs [(n : Int)]).length ≤ 10 := encs_length [(n : Int)]
  have he2 : (encr [p]).length ≤ 1000100 := by
    rw [encr_one', List.length_append]
    have := enc7_length 9 p.length (by omega)
    omega
  clear hnum
  go_enter Tryd.func99, Tryd.ntmps99
  go_wp2_with fail
  have xA : Ext w (w.alloc (.cells #[.slice none 0 0] 153)) := (Mod.refl _ _).alloc _
  have hsA : (w.alloc (.cells #[.slice none 0 0] 153)).heap.size = w.heap.size + 1 := by simp
  have hi := Sl.one (w.alloc (.cells #[.slice none 0 0] 153)) 3 (iv (n : Int))
  rw [hsA] at hi
  have xB : Ext w ((w.alloc (.cells #[.slice none 0 0] 153)).alloc (.cells #[iv (n : Int)] 3)) := xA.alloc _
  have hsB : ((w.alloc (.cells #[.slice none 0 0] 153)).alloc (.cells #[iv (n : Int)] 3)).heap.size = w.heap.size + 2 := by simp
  have hwA : Wr ((w.alloc (.cells #[.slice none 0 0] 153)).alloc (.cells #[iv (n : Int)] 3)) w.heap.size (.slice none 0 0) [] := (hw0 w).mod ((Mod.refl (fun _ => False) _).alloc _) (fun h => h) (fun _ _ h => h)
  have hc := wnums_any (ns := [(n : Int)]) hwA hi (fun k _ hk hw => by rcases hw with hw | hw
                                                                       · omega
                                                                       · cases hw) (by simp)
  clear hi hwA hw0
  refine hc.mono ?_
  rintro e w1 ⟨rfl, v1, hw1, m1, n1⟩
  have x1 : Ext w w1 := xB.trans m1 (fun _ _ h => h) (fun k hk h => by rcases h with h | h
                                                                       · omega
                                                                       · cases h)
  have f1 : Fresh (w.heap.size + 1) v1 := n1.fresh (fresh_nil _ _ _) (by omega)
  have hz1 := m1.size
  rw [hsB] at hz1
  clear hc m1 n1 xB xA hsA hsB
  go_wp2_with fail
  have hr := Rw.one 32 (hy.mod x1 (fun _ _ _ h => h))
  have xC : Ext w1 (w1.alloc (.cells #[.slice A0 p.length c0] 32)) := (Mod.refl _ _).alloc _
  have hw2 : Wr (w1.alloc (.cells #[.slice A0 p.length c0] 32)) w.heap.size v1 ([] ++ encs [(n : Int)]) := hw1.mod xC (fun h => h) (fun _ _ h => h)
  have hown : ∀ k, v1.ownBlock = some k → k < w1.heap.size := fun k hk => hw1.row.lt hk
  have hc := wbytes_any (L := [p]) hw2 hr (fun k _ hk hw => by
    rcases hk with hk | hk
    · have := hS k hk
      rcases hw with hw | hw
      · omega
      · have := f1 k hw; omega
    · rcases hw with hw | hw
      · omega
      · have := hown k hw; omega) (by rw [List.nil_append]; omega)
  clear hr hw2 hw1
  refine hc.mono ?_
  rintro e w2 ⟨rfl, v2, hw2, m2, n2⟩
  have x2 : Ext w w2 := (ext_trans x1 xC).trans m2 (fun _ _ h => h) (fun k hk h => by
    rcases h with h | h
    · omega
    · have := f1 k h; omega)
  clear hc m2 n2 xC x1 hown
  go_wp2_with fail
  have hc := wout_any hw2 (by rw [List.length_append, List.nil_append]; omega)
  have hz2 := x2.size
  clear hw2
  refine hc.mono ?_
  rintro e w3 ⟨v3, rfl, o3, f3, x3, z3⟩
  go_wp2_with fail
  go_ret
  exact ⟨_, rfl, o3, fun k hk => by have := f3.symm.trans hk; injection this with this; omega, ext_trans x2 x3⟩
/-- What was left behind, and other files, taken away. -/
theorem lremove_any {S : Nat → Prop} {w : World} {d : Ds} {v : Value} (h : Dk S w v d) (t : List UInt8) (hl : t.length ≤ 1000000) :
    Calls Tryd.prog 65 #[v, sv t] w fun e w' => e = .returned (ev (rmT d t).2) ∧ Dk (Grow S w) w' v (rmT d t).1 ∧ Mod S w w' := by
  have hpv : ∃ bd, v = pv bd := by obtain ⟨bd, _, _, _, e, _⟩ := h; exact ⟨bd, e⟩
  obtain ⟨bd, rfl⟩ := hpv
  have hcr := read_any h t hl
  have hcase : (readD d t = none ∧ rmT d t = (d, 0)) ∨ (∃ b, readD d t = some b ∧ rmT d t = eachD removeD d [t]) := by
    unfold rmT
    cases hb : readD d t with
    | none => exact .inl ⟨rfl, by simp⟩
    | some b => exact .inr ⟨b, rfl, by simp⟩
  rcases hcase with ⟨hr1, hr2⟩ | ⟨b, hr1, hr2⟩
  · rw [hr2]
    rw [hr1, codeR_none] at hcr
    go_enter Tryd.func65, Tryd.ntmps65
    go_wp2_with fail
    refine hcr.mono ?_
    rintro e w1 ⟨u, rfl, -, -, x1⟩
    go_wp2_with fail
    go_ret
    exact ⟨rfl, (h.ext x1).grow w, x1.mono fun _ _ h => h.elim⟩
  · rw [hr2]
    rw [hr1, codeR_some] at hcr
    generalize hq : eachD removeD d [t] = r
    replace hq := Lib.hid hq
    go_enter Tryd.func65, Tryd.ntmps65
    go_wp2_with fail
    refine hcr.mono ?_
    rintro e w1 ⟨u, rfl, -, -, x1⟩
    have H1 := Held.start h x1
    have xa : Ext w1 (w1.alloc (.cells #[sv t] 9)) := (Mod.refl _ _).alloc _
    have hc := held_call H1 xa fun U hU hdk => Remove_any hdk (one_name w1 t) (sep_name (Nat.le_refl _) x1.size hU)
    rw [hq.out] at hc
    clear hcr H1 hq
    go_wp2_with fail
    refine hc.mono ?_
    rintro e w2 ⟨rfl, H2, -⟩
    clear hc
    go_wp2_with fail
    go_ret
    exact ⟨rfl, H2.dk, H2.mod⟩
end Go.Proofs.YtnmfkfjeihjkeaaDoor
namespace Go.Proofs.YtnmfkfjeihjkeaaDoor
open Go.RowKit Go.Maps Go.WideMaps
set_option maxRecDepth 100000

def imgN (p : List UInt8) : List UInt8 := p ++ [45, 105, 109, 103]
def logN (p : List UInt8) : List UInt8 := p ++ [45, 108, 111, 103]
structure Lst where
  p : List UInt8
  base : Nat
  data : List UInt8
  es : Tx
  dead : Bool
def lastL5 (l : Lst) : Nat := l.base + l.es.length
abbrev lcells (bd : Nat) (l : Lst) (dv ew : Value) : Array Value := #[pv bd, sv l.p, .int .i64 (l.base : Int), dv, ew, .bool l.dead]
structure LgAt (U : Nat → Prop) (w : World) (g bd : Nat) (dv ew : Value) (vs : List Value) (l : Lst) : Prop where
  sg : U g
  blk : Blk w g 103 (lcells bd l dv ew)
  dat : Bs w (fun k => U k ∧ k ≠ g ∧ ¬ own ew k) dv l.data
  ents : Own w 32 ew vs
  entU : ∀ k, own ew k → U k ∧ k ≠ g
  len : vs.length = l.es.length
  els : ∀ (k : Nat) (x : Value) (e : List UInt8), vs[k]? = some x → l.es[k]? = some e → Bs w (fun k => U k ∧ k ≠ g ∧ ¬ own ew k) x e
  small : ∀ e ∈ l.es, e.length ≤ 1000000
  pl : l.p.length ≤ 20
  bb : l.base ≤ 1099511627776
  dl : l.data.length ≤ 1000000
  el : l.es.length ≤ 100000
section
variable {U V F : Nat → Prop} {w w' : World} {g bd : Nat} {dv ew : Value} {vs : List Value} {l : Lst}
theorem LgAt.mod (h : LgAt U w g bd dv ew vs l) (hm : Mod F w w') (hn : ∀ k, k < w.heap.size → U k → ¬ F k) : LgAt U w' g bd dv ew vs l where
  sg := h.sg
  blk := h.blk.mod hm (hn _ h.blk.lt h.sg)
  dat := h.dat.mod hm fun k hk hs => hn k hk hs.1
  ents := h.ents.mod hm fun k hk => hn k (h.ents.lt hk) (h.entU k hk).1
  entU := h.entU
  len := h.len
  els := fun k x e h1 h2 => (h.els k x e h1 h2).mod hm fun k hk hs => hn k hk hs.1
  small := h.small
  pl := h.pl
  bb := h.bb
  dl := h.dl
  el := h.el
theorem LgAt.mono (h : LgAt U w g bd dv ew vs l) (hn : ∀ k, k < w.heap.size → U k → V k) : LgAt V w g bd dv ew vs l where
  sg := hn _ h.blk.lt h.sg
  blk := h.blk
  dat := h.dat.mono fun k hk hs => ⟨hn k hk hs.1, hs.2⟩
  ents := h.ents
  entU := fun k hk => ⟨hn k (h.ents.lt hk) (h.entU k hk).1, (h.entU k hk).2⟩
  len := h.len
  els := fun k x e h1 h2 => (h.els k x e h1 h2).mono fun k hk hs => ⟨hn k hk hs.1, hs.2⟩
  small := h.small
  pl := h.pl
  bb := h.bb
  dl := h.dl
  el := h.el
theorem LgAt.ext (h : LgAt U w g bd dv ew vs l) (hm : Ext w w') : LgAt U w' g bd dv ew vs l := h.mod hm fun _ _ _ h => h
/-- A Disk and a Ledger on it, apart, all in blocks of X. -/
def LD (X : Nat → Prop) (w : World) (bd : Nat) (d : Ds) (g : Nat) (l : Lst) : Prop :=
  ∃ T U dv ew vs, Dk T w (pv bd) d ∧ LgAt U w g bd dv ew vs l ∧ (∀ k, T k → ¬ U k) ∧ (∀ k, k < w.heap.size → T k → X k) ∧ (∀ k, k < w.heap.size → U k → X k)
set_option maxHeartbeats 2000000 in
theorem img_any (h : Blk w g 103 (lcells bd l dv ew)) (hpl : l.p.length ≤ 20) :
    Calls Tryd.prog 66 #[pv g] w fun e w' => e = .returned (sv (imgN l.p)) ∧ w' = w := by
  have c1 : w.cell? ⟨g, 1, none⟩ = some (sv l.p) := h.cell 1
  have hcat : ((⟨l.p.toArray⟩ : ByteArray) ++ ⟨#[45, 105, 109, 103]⟩) = ⟨(imgN l.p).toArray⟩ := cat_data l.p [45, 105, 109, 103]
  have hno : ¬ 9223372036854775807 < l.p.length + 4 := by omega
  clear h
  generalize imgN l.p = x at *
  generalize l.p = p at *
  go_enter Tryd.func66, Tryd.ntmps66
  go_wp2_with fail
  go_ret
  exact ⟨rfl, rfl⟩
set_option maxHeartbeats 2000000 in
theorem log_any (h : Blk w g 103 (lcells bd l dv ew)) (hpl : l.p.length ≤ 20) :
    Calls Tryd.prog 72 #[pv g] w fun e w' => e = .returned (sv (logN l.p)) ∧ w' = w := by
  have c1 : w.cell? ⟨g, 1, none⟩ = some (sv l.p) := h.cell 1
  have hcat : ((⟨l.p.toArray⟩ : ByteArray) ++ ⟨#[45, 108, 111, 103]⟩) = ⟨(logN l.p).toArray⟩ := cat_data l.p [45, 108, 111, 103]
  have hno : ¬ 9223372036854775807 < l.p.length + 4 := by omega
  clear h
  generalize logN l.p = x at *
  generalize l.p = p at *
  go_enter Tryd.func72, Tryd.ntmps72
  go_wp2_with fail
  go_ret
  exact ⟨rfl, rfl⟩
set_option maxHeartbeats 2000000 in
theorem last5_any (h : LgAt U w g bd dv ew vs l) :
    Calls Tryd.prog 37 #[pv g] w fun e w' => e = .returned (.int .i64 (lastL5 l : Nat)) ∧ ∃ k, w' = w.drewN k := by
  have c2 : w.cell? ⟨g, 2, none⟩ = some (.int .i64 (l.base : Int)) := h.blk.cell 2
  have c4 : w.cell? ⟨g, 4, none⟩ = some ew := h.blk.cell 4
  obtain ⟨A, c, rfl⟩ := h.ents.shape
  have hl := h.len
  rw [hl] at c4
  have hb := h.bb
  have he := h.el
  clear h
  go_enter Tryd.func37, Tryd.ntmps37
  go_wp2_with fail
  go_quiet (fail)
  go_wp2_with fail
  go_ret
  exact ⟨rfl, _, rfl⟩
set_option maxHeartbeats 4000000 in
theorem base_any (h : LgAt U w g bd dv ew vs l) :
    Calls Tryd.prog 39 #[pv g] w fun e w' => ∃ u, e = .returned (.tuple #[.int .i64 (l.base : Nat), u]) ∧ Own w' 5 u (l.data.map bv) ∧ Fresh w.heap.size u ∧ Ext w w' := by
  have c2 : w.cell? ⟨g, 2, none⟩ = some (.int .i64 (l.base : Int)) := h.blk.cell 2
  have c3 : w.cell? ⟨g, 3, none⟩ = some dv := h.blk.cell 3
  obtain ⟨A, c, rfl, h1, h2, h3, h4⟩ := h.dat.open_
  have hcc : ∀ {wx : World}, Ext w wx → wx.cell? ⟨g, 2, none⟩ = some (.int .i64 (l.base : Int)) ∧ wx.cell? ⟨g, 3, none⟩ = some (.slice A l.data.length c) := fun q => ⟨(q.cell (lt_of_cell c2) (fun h => h)).trans c2, (q.cell (lt_of_cell c3) (fun h => h)).trans c3⟩
  have hj : Calls Tryd.prog 70 #[.slice (some ⟨w.heap.size, 0, none⟩) 1 1] ((w.alloc (.cells #[.slice A l.data.length c] 32)).drew) fun e w' => ∃ v', e = .returned v' ∧ Own w' 5 v' (l.data.map bv) ∧ Fresh w.heap.size v' ∧ Ext w w' := by
    have hr := (Rw.one 32 h.dat).mod ((Mod.refl (fun _ => False) _).drew) (fun _ _ _ h => h)
    refine (join_any hr (by have := h.dl; simp; omega)).mono fun e w' ⟨v', q1, q2, q3, q4⟩ => ⟨v', q1, by simpa using q2, q3.mono (by simp [World.drew]), ext_trans ((Mod.refl _ w).alloc _).drew q4⟩
  clear h h4
  generalize l.data.map bv = D at *
  generalize l.data.length = n at *
  generalize l.base = b at *
  have q0 : Ext w w.drew := (Mod.refl _ w).drew
  have qE : Ext w ((w.alloc (.cells #[.slice A n c] 32)).drew) := ((Mod.refl _ w).alloc _).drew
  go_enter Tryd.func39, Tryd.ntmps39
  go_wp2_with fail
  go_region_held3 (fun wx => wx.cell? ⟨g, 2, none⟩ = some (.int .i64 (b : Int)) ∧ wx.cell? ⟨g, 3, none⟩ = some (.slice A n c)) (first | exact hcc q0 | exact hcc qE | exact hcc q1)
    (first
      | (go_at_call 70; (with_reducible refine hj.mono ?_); rintro e w1 ⟨v1, rfl, o1, f1, q1⟩))
  all_goals go_wp2_with fail
  all_goals go_ret2
  all_goals exact ⟨_, rfl, o1, f1, q1⟩
end
end Go.Proofs.YtnmfkfjeihjkeaaDoor
namespace Go.Proofs.YtnmfkfjeihjkeaaDoor
open Go.RowKit Go.Maps Go.WideMaps
set_option maxRecDepth 100000

def layD (d : Ds) (p : List UInt8) (n : Nat) (b : List UInt8) : Ds × Nat := bindD (appendD d (logN p) [frec (numB n b)]) fun d1 => eachD syncD d1 [logN p]
theorem numB_len (n : Nat) (b : List UInt8) (hn : n ≤ 1099511627777) (hb : b.length ≤ 1000000) : (numB n b).length ≤ b.length + 20 := by
  have h1 := enc7_length 9 n (by omega)
  have h2 := enc7_length 9 b.length (by omega)
  simp only [numB, List.length_append]
  omega
section
variable {T U V : Nat → Prop} {w w' : World} {g bd : Nat} {dv ew y : Value} {vs : List Value} {l : Lst} {d : Ds} {b : List UInt8} {n : Nat}
set_option maxHeartbeats 8000000 in
theorem lay5_any (h : Dk T w (pv bd) d) (hl : LgAt U w g bd dv ew vs l) (sep : ∀ k, T k → ¬ U k) (hy : Bs w V y b) (hV : ∀ k, V k → k < w.heap.size) (hb : b.length ≤ 100000) (hn : n ≤ 1099511627777) (hN : Nib w) :
    Calls Tryd.prog 69 #[pv g, .int .i64 (n : Int), y] w fun e w' => e = .returned (.int .i64 ((layD d l.p n b).2 : Nat)) ∧ Dk (Grow T w) w' (pv bd) (layD d l.p n b).1 ∧ Mod T w w' := by
  have hblk : ∀ wj, Mod T w wj → Blk wj g 103 (lcells bd l dv ew) := fun wj m => hl.blk.mod m (fun hT => sep g hT hl.sg)
  have hcell : ∀ wj, Mod T w wj → wj.cell? ⟨g, 0, none⟩ = some (pv bd) := fun wj m => (hblk wj m).cell 0
  have hlog : ∀ wj, Mod T w wj → Calls Tryd.prog 72 #[pv g] wj fun e w' => e = .returned (sv (logN l.p)) ∧ w' = wj := fun wj m => log_any (hblk wj m) hl.pl
  obtain ⟨R, hR⟩ : ∃ R, R = layD d l.p n b := ⟨_, rfl⟩
  rw [← hR]
  unfold layD at hR
  replace hR := Lib.hid hR
  have hlen := numB_len n b hn (by omega)
  have hc := numbered_any hy hV hn (by omega)
  have htl : (logN l.p).length ≤ 1000000 := by have := hl.pl; simp [logN]; omega
  clear hl hy hblk
  generalize logN l.p = t at *
  generalize numB n b = nb at *
  go_enter Tryd.func69, Tryd.ntmps69
  go_wp2_with fail
  refine hc.mono ?_
  rintro e w1 ⟨u, rfl, o1, f1, x1⟩
  clear hc
  obtain ⟨Au, cu, hu⟩ := o1.shape
  rw [List.length_map] at hu
  have hce := encode_any (row_one o1.sl) (hN.ext (ext_trans x1 ((Mod.refl _ _).alloc _))) (by simp; omega)
  rw [show ([nb] : Tx).flatten = nb by simp] at hce
  have hz1 := x1.size
  subst hu
  go_wp2_with fail
  refine hce.mono ?_
  rintro e w2 ⟨u2, rfl, o2, f2, x2⟩
  have y2 : Ext w w2 := ext_trans (ext_trans x1 ((Mod.refl _ _).alloc _)) x2
  have H2 := Held.start h y2
  have hus : ∀ k, own u2 k → w.heap.size ≤ k ∧ k < w2.heap.size := fun k hk => ⟨by have := f2 k hk; simp at this; omega, o2.lt hk⟩
  obtain ⟨Av, cv, hv⟩ := o2.shape
  rw [List.length_map] at hv
  have b2 : Bs w2 (own u2) u2 (frec nb) := o2.sl
  have hw2 := y2.size
  clear hce h f1 f2 o1 o2 x1 x2 hz1
  generalize frec nb = fr at *
  subst hv
  go_wp2_with fail
  have xa : Ext w2 ((w2.alloc (.cells #[.slice Av fr.length cv] 32)).drew) := ((Mod.refl _ _).alloc _).drew
  have hrow := (row_one b2).mod ((Mod.refl (fun _ => False) (w2.alloc (.cells #[.slice Av fr.length cv] 32))).drew) (fun _ _ _ h => h)
  have hc := held_call H2 xa fun X hX hdk => append_any hdk t hrow (fun k hk => hk.elim (fun hk hu => off_it (wj := w2) (wa := w2) (S := T) hus k (hus k hk).2 hk (hX k hu)) (sep_name (Nat.le_refl _) hw2 hX k)) (by simp)
  generalize appendD d t [fr] = r at hR hc
  obtain ⟨d2, n2⟩ := r
  simp only at hc
  have mA : Mod T w ((w2.alloc (.cells #[.slice Av fr.length cv] 32)).drew) := (ext_trans y2 xa).mono fun _ _ h => h.elim
  have m0 : Mod T w w2.drew := (y2.mono fun _ _ h => h.elim : Mod T w w2).drew
  have hk0 := hcell _ m0
  have hkA := hcell _ mA
  go_region_held3 (fun wx => wx.cell? ⟨g, 0, none⟩ = some (pv bd)) (first | exact hk0 | exact hkA | exact hkX)
    (first
      | (go_at_call 72; (with_reducible refine (hlog _ mA).mono ?_); rintro e wx ⟨rfl, rfl⟩; have hkX := hkA)
      | (go_at_call 72; (with_reducible refine (hlog _ m0).mono ?_); rintro e wx ⟨rfl, rfl⟩; have hkX := hk0)
      | (go_at_call 26; (with_reducible refine hc.mono ?_); rintro e w4 ⟨rfl, H4, m4⟩; have hkX := hcell _ H4.mod))
  all_goals
    clear hkX hkA hk0 m0 mA m4 hc hrow xa b2 hus H2 y2
    have hz4 : w.heap.size ≤ w4.heap.size := H4.mod.size
    have H4' := Held.start (S := Grow T w) H4.dk (Mod.refl _ w4)
    have hM4 := H4.mod
    clear H4
    by_cases hn4 : n2 = 0
    case neg =>
      rw [bindD_err hn4] at hR
      have hb3 := n_ne0 hn4
      have hR2 := hR.out
      subst hR2
      clear hR
      have hd := H4'.dk
      go_wp2_with fail
      go_ret
      exact ⟨rfl, hd.mono fun k _ hk => hk.elim id fun hk => .inr (Nat.le_trans hz4 hk), hM4⟩
    subst hn4
    rw [bindD_ok] at hR
    have hR2 := hR.out
    clear hR
    go_wp2_with fail
    have xa : Ext w4 ((w4.alloc (.cells #[sv t] 9)).drew) := ((Mod.refl _ _).alloc _).drew
    have hnm := (one_name w4 t).mod ((Mod.refl (fun _ => False) (w4.alloc (.cells #[sv t] 9))).drew) (fun _ _ _ h => h)
    have hc := held_call H4' xa fun X hX hdk => Sync_any hdk hnm (sep_name (Nat.le_refl _) (Nat.le_refl _) hX)
    generalize eachD syncD d2 [t] = r at hc hR2
    obtain ⟨d3, n3⟩ := r
    simp only at hc
    subst hR2
    have mA : Mod T w ((w4.alloc (.cells #[sv t] 9)).drew) := hM4.then_ xa fun _ _ h => h.elim
    have m0 : Mod T w w4.drew := hM4.drew
    have hk0 := hcell _ m0
    have hkA := hcell _ mA
    have hfin : ∀ w5, Held (Grow T w) w4 w4 w5 (pv bd) d3 → Mod T w w5 := fun w5 H => hM4.trans H.mod (fun _ _ h => h) (fun k hk h => h.elim id fun h => by omega)
    replace hfin := Lib.hid hfin
    go_region_held3 (fun wx => wx.cell? ⟨g, 0, none⟩ = some (pv bd)) (first | exact hk0 | exact hkA | exact hkX)
      (first
        | (go_at_call 72; (with_reducible refine (hlog _ mA).mono ?_); rintro e wx ⟨rfl, rfl⟩; have hkX := hkA)
        | (go_at_call 72; (with_reducible refine (hlog _ m0).mono ?_); rintro e wx ⟨rfl, rfl⟩; have hkX := hk0)
        | (go_at_call 45; (with_reducible refine hc.mono ?_); rintro e w5 ⟨rfl, H5, m5⟩; have hkX := hcell _ (hfin.out _ H5)))
    all_goals
      have hd := H5.dk
      have hM5 := hfin.out _ H5
      clear hkX hkA hk0 m0 mA m5 hc xa H5 H4' hfin
      go_wp2_with fail
      go_ret
      exact ⟨rfl, hd.mono fun k _ hk => hk.elim id fun hk => .inr (Nat.le_trans hz4 hk), hM5⟩
end
end Go.Proofs.YtnmfkfjeihjkeaaDoor
namespace Go.Proofs.YtnmfkfjeihjkeaaDoor
open Go.RowKit Go.Maps Go.WideMaps
set_option maxRecDepth 100000

section
variable {P : Program} {w : World} {t e : TypeId} {z : Value} {bytes : Nat} {ops : Array Oper} {o : Oper} {a : Act} {Q : Exit → Act → World → Prop}
/-- append(v, bytes that were laid) at a step of a region that draws. -/
theorem step_app {K : Act → World → Prop} {E : Prop} (d : Tmp) (hT : SliceTy P t e z bytes) {v y : Value} {S : Nat → Prop} {xs news : List Value} (hown : Own w e v xs) (hr : Sl w S y news) (h1 : ∀ u ∈ news, u.oneCell' = true)
    (hn : (xs.length + news.length) * bytes ≤ 140737488355328) (hgd : o.guard = none) (hd : o.dst = some d) (s yy : Operand) (ho : o.op = .call { callee := .builtin .append, args := #[s, yy], argTypes := #[t, t] }) (hs : a.eval s = v) (hy : a.eval yy = y)
    (h : ∀ v' w', Own w' e v' (xs ++ news) → Mod (own v) w w' → Next w.heap.size v v' → K (a.put o.dst v') w') : if Region.wanted o (yielded ops a.tmps) = true then Oper.wp P o a w K Q else E := by
  have hw : Region.wanted o (yielded ops a.tmps) = true := by simp [Region.wanted, hgd]
  rw [if_pos hw]
  obtain ⟨v', w', hrun, h2, h3, h4⟩ := run_app (P := P) hT o.type hown hr h1 hn
  unfold Oper.wp execOp
  simp only [ho, resolve, invoke, builtin, Sem.run_bind, Sem.run_pure, Result.andThen_ok, List.map_toArray, List.map_cons, List.map_nil, hs, hy, hrun]
  simp only [Oper.upon, hd]
  have := h v' w' h2 h3 h4
  rw [hd] at this
  exact this
end
section
variable {T U V X : Nat → Prop} {w w' : World} {g bd : Nat} {dv ew y : Value} {vs : List Value} {l : Lst} {d d' : Ds} {b : List UInt8} {n : Nat}
/-- A Disk and a Ledger on it, apart, all in blocks of X that are there. -/
def LDk (X : Nat → Prop) (w : World) (bd : Nat) (d : Ds) (g : Nat) (l : Lst) : Prop :=
  ∃ T U dv ew vs, Dk T w (pv bd) d ∧ LgAt U w g bd dv ew vs l ∧ (∀ k, T k → ¬ U k) ∧ (∀ k, T k → X k ∧ k < w.heap.size) ∧ (∀ k, U k → X k ∧ k < w.heap.size)
def lappL (l : Lst) (b : List UInt8) : Lst := { l with es := l.es ++ [b] }
theorem next_sub {B : Nat} {v v' : Value} (h : Next B v v') {k : Nat} (hk : k < B) (ho : own v' k) : own v k := h.sub hk ho
theorem lapp_fin {T4 : Nat → Prop} {w4 w5 w6 : World} {u v6 : Value} (h4 : Dk T4 w4 (pv bd) d') (hT4 : ∀ k, T4 k → (T k ∨ w.heap.size ≤ k) ∧ k < w4.heap.size) (l4 : LgAt U w4 g bd dv ew vs l) (sep : ∀ k, T k → ¬ U k) (hT : ∀ k, T k → X k ∧ k < w.heap.size) (hU : ∀ k, U k → X k ∧ k < w.heap.size) (m4 : Mod T w w4)
    (hb : b.length ≤ 65536) (hes : l.es.length + 1 ≤ 100000) (o5 : Own w5 5 u (b.map bv)) (f5 : Fresh w4.heap.size u) (q5 : Ext w4 w5) (o6 : Own w6 32 v6 (vs ++ [u])) (m6 : Mod (own ew) (w5.alloc (.cells #[u] 32)) w6) (n6 : Next (w5.alloc (.cells #[u] 32)).heap.size ew v6) :
    LDk (Grow X w) (w6.setCell ⟨g, 4, none⟩ v6) bd d' g (lappL l b) ∧ Mod X w (w6.setCell ⟨g, 4, none⟩ v6) := by
  have hz4 := m4.size
  have hz5 := q5.size
  have hzA : w5.heap.size ≤ (w5.alloc (.cells #[u] 32)).heap.size := by simp
  have hz6 := m6.size
  have s7 : Mod (fun k => k = g) w6 (w6.setCell ⟨g, 4, none⟩ v6) := setg_mod _ _ _ _
  have hz7 := s7.size
  have m46 : Mod (own ew) w4 w6 := (q5.alloc (.cells #[u] 32)).trans m6 (fun _ _ h => h.elim) (fun _ _ h => h)
  have m47 : Mod (fun k => own ew k ∨ k = g) w4 (w6.setCell ⟨g, 4, none⟩ v6) := m46.trans s7 (fun _ _ h => .inl h) (fun _ _ h => .inr h)
  have hng : ¬ own ew g := fun h => (l4.entU g h).2 rfl
  have hgl : g < w.heap.size := (hU g l4.sg).2
  have hew : ∀ k, own ew k → U k := fun k hk => (l4.entU k hk).1
  have hv6 : ∀ k, own v6 k → own ew k ∨ w4.heap.size ≤ k := fun k hk => by
    rcases Nat.lt_or_ge k (w5.alloc (.cells #[u] 32)).heap.size with h | h
    · exact .inl (n6.sub h hk)
    · exact .inr (by omega)
  have hv6' : ∀ k, k < (w5.alloc (.cells #[u] 32)).heap.size → own v6 k → own ew k := fun k h hk => n6.sub h hk
  have hTU : ∀ k, T4 k → ¬ U k := fun k hk hu => by
    rcases (hT4 k hk).1 with h | h
    · exact sep k h hu
    · have := (hU k hu).2; omega
  have old : ∀ {y : Value} {e : List UInt8}, Bs w4 (fun k => U k ∧ k ≠ g ∧ ¬ own ew k) y e → Bs (w6.setCell ⟨g, 4, none⟩ v6) (fun k => (U k ∨ (w4.heap.size ≤ k ∧ k < (w6.setCell ⟨g, 4, none⟩ v6).heap.size)) ∧ k ≠ g ∧ ¬ own v6 k) y e := fun h =>
    (h.mod m47 fun k hk hs hF => hF.elim hs.2.2 hs.2.1).mono fun k _ hs => ⟨.inl hs.1, hs.2.1, fun ho => hs.2.2 (hv6' k (by have := (hU k hs.1).2; omega) ho)⟩
  refine ⟨⟨T4, fun k => U k ∨ (w4.heap.size ≤ k ∧ k < (w6.setCell ⟨g, 4, none⟩ v6).heap.size), dv, v6, vs ++ [u], h4.mod m47 (fun k _ hk hF => hF.elim (fun h => hTU k hk (hew k h)) fun h => hTU k hk (h ▸ l4.sg)), ?_, ?_, ?_, ?_⟩, ?_⟩
  · have hbk := (l4.blk.mod m46 hng).set_ 4 v6
    refine ⟨.inl l4.sg, hbk, old l4.dat, o6.mod s7 (fun k hk e => ?_), fun k hk => ?_, ?_, fun k x e hx he => ?_, fun e he => ?_, l4.pl, l4.bb, l4.dl, ?_⟩
    · subst e
      exact hng (hv6' _ (by omega) hk)
    · rcases hv6 k hk with h | h
      · exact ⟨.inl (hew k h), (l4.entU k h).2⟩
      · exact ⟨.inr ⟨h, Nat.lt_of_lt_of_le (o6.lt hk) hz7⟩, by omega⟩
    · simp [lappL, l4.len]
    · by_cases hlt : k < vs.length
      · rw [List.getElem?_append_left hlt] at hx
        rw [show (lappL l b).es = l.es ++ [b] from rfl, List.getElem?_append_left (by rw [← l4.len]; exact hlt)] at he
        exact old (l4.els k x e hx he)
      · rw [List.getElem?_append_right (by omega)] at hx
        rw [show (lappL l b).es = l.es ++ [b] from rfl, List.getElem?_append_right (by rw [← l4.len]; omega), ← l4.len] at he
        have hk0 : k - vs.length = 0 := by
          rcases Nat.eq_zero_or_pos (k - vs.length) with h0 | h0
          · exact h0
          · rw [List.getElem?_eq_none (by simp only [List.length_singleton]; omega)] at hx; cases hx
        rw [hk0] at hx he
        simp only [List.getElem?_cons_zero, Option.some.injEq] at hx he
        subst hx; subst he
        have hub : ∀ k, own u k → w4.heap.size ≤ k ∧ k < w5.heap.size := fun k hk => ⟨f5 k hk, o5.lt hk⟩
        have h1 : Bs (w5.alloc (.cells #[u] 32)) (own u) u b := (o5.mod ((Mod.refl (fun _ => False) _).alloc _) (fun _ _ h => h)).sl
        have h2 : Bs w6 (own u) u b := h1.mod m6 fun k _ hk ho => by have := hub k hk; have := l4.ents.lt ho; omega
        exact (h2.mod s7 fun k _ hk e => by have := hub k hk; omega).mono fun k _ hk => ⟨.inr ⟨(hub k hk).1, by have := (hub k hk).2; omega⟩, by have := hub k hk; omega, fun ho => by have := hub k hk; have := l4.ents.lt (hv6' k (by omega) ho); omega⟩
    · rcases List.mem_append.1 he with h | h
      · exact l4.small e h
      · rw [List.mem_singleton.1 h]; omega
    · show (l.es ++ [b]).length ≤ 100000
      rw [List.length_append, List.length_singleton]; omega
  · rintro k hk (h | h)
    · exact hTU k hk h
    · have := (hT4 k hk).2; omega
  · intro k hk
    refine ⟨?_, by have := (hT4 k hk).2; omega⟩
    rcases (hT4 k hk).1 with h | h
    · exact .inl (hT k h).1
    · exact .inr h
  · rintro k (h | h)
    · exact ⟨.inl (hU k h).1, by have := (hU k h).2; omega⟩
    · exact ⟨.inr (by omega), h.2⟩
  · exact m4.trans m47 (fun k _ h => (hT k h).1) (fun k _ h => h.elim (fun h => (hU k (hew k h)).1) fun h => h ▸ (hU g l4.sg).1)
set_option maxHeartbeats 16000000 in
theorem lapp_ok (h : Dk T w (pv bd) d) (hl : LgAt U w g bd dv ew vs l) (sep : ∀ k, T k → ¬ U k) (hT : ∀ k, T k → X k ∧ k < w.heap.size) (hU : ∀ k, U k → X k ∧ k < w.heap.size)
    (hdead : l.dead = false) (hy : Bs w V y b) (hV : ∀ k, V k → k < w.heap.size ∧ ¬ X k) (hb : b.length ≤ 65536) (hn : lastL5 l + 1 ≤ 1099511627776) (hes : l.es.length + 1 ≤ 100000) (hr : layD d l.p (lastL5 l + 1) b = (d', 0)) (hN : Nib w) :
    Calls Tryd.prog 35 #[pv g, y] w fun e w' => e = .returned (.tuple #[.int .i64 ((lastL5 l + 1 : Nat) : Int), .int .i64 0]) ∧ LDk (Grow X w) w' bd d' g (lappL l b) ∧ Mod X w w' := by
  obtain ⟨Ay, cy, rfl, y1, y2, y3, y4⟩ := hy.open_
  have c5 : w.cell? ⟨g, 5, none⟩ = some (.bool false) := by have := hl.blk.cell 5; rw [this, ← hdead]; rfl
  have hcl := last5_any hl
  have hb1 : decide ((65536 : Int) < (b.length : Int)) = false := dfalse (by omega)
  have hb2 : decide ((1099511627776 : Int) < (lastL5 l : Int) + 1) = false := dfalse (by omega)
  have hcy := fun k => lay5_any (w := w.drewN k) (h.ext ((Mod.refl _ _).drewN k)) (hl.ext ((Mod.refl _ _).drewN k)) sep (hy.drewN k) (fun k hk => (hV k hk).1) (by omega) (n := lastL5 l + 1) (by omega) hN
  rw [hr] at hcy
  have hcast : ((lastL5 l + 1 : Nat) : Int) = (lastL5 l : Int) + 1 := by omega
  rw [hcast] at hcy ⊢
  generalize hla : lastL5 l = la at *
  go_enter Tryd.func35, Tryd.ntmps35
  go_wp2_with fail
  refine hcl.mono ?_
  rintro e w1 ⟨rfl, k1, rfl⟩
  clear hcl
  replace hcy := hcy k1
  go_wp2_with fail
  refine hcy.mono ?_
  rintro e w4 ⟨rfl, h4, m4⟩
  replace m4 : Mod T w w4 := ((Mod.refl _ w).drewN k1).then_ m4 fun _ _ h => h
  have h4 := h4.cut
  have hz4 := m4.size
  have l4 := hl.mod m4 fun k _ hk hT => sep k hT hk
  have y4' := hy.mod m4 fun k hk hv hT' => (hV k hv).2 (hT k hT').1
  clear hcy hl h c5
  go_wp2_with fail
  have hev : ∀ {wx : World}, Ext w4 wx → wx.cell? ⟨g, 4, none⟩ = some ew ∧ wx.frozen? ⟨g, 4, none⟩ = false ∧ wx.cell? ⟨g, 0, none⟩ = some (pv bd) := fun q => by
    have hb := l4.blk.mod q (fun h => h)
    exact ⟨hb.cell 4, hb.frozen 4, hb.cell 0⟩
  have qA : Ext w4 ((w4.alloc (.cells #[.slice Ay b.length cy] 32)).drew) := ((Mod.refl _ _).alloc _).drew
  have q0 : Ext w4 w4.drew := (Mod.refl _ _).drew
  obtain ⟨e0, z0, k0⟩ := hev q0
  obtain ⟨eA, zA, kA⟩ := hev qA
  have hj : Calls Tryd.prog 70 #[.slice (some ⟨w4.heap.size, 0, none⟩) 1 1] ((w4.alloc (.cells #[.slice Ay b.length cy] 32)).drew) fun e w' => ∃ v', e = .returned v' ∧ Own w' 5 v' (b.map bv) ∧ Fresh w4.heap.size v' ∧ Ext w4 w' := by
    have hr := (Rw.one 32 y4').mod ((Mod.refl (fun _ => False) _).drew) (fun _ _ _ h => h)
    refine (join_any hr (by simp; omega)).mono fun e w' ⟨v', q1, q2, q3, q4⟩ => ⟨v', q1, by simpa using q2, q3.mono (by simp [World.drew]), ext_trans ((Mod.refl _ w4).alloc _).drew q4⟩
  have hng : ¬ own ew g := fun h => (l4.entU g h).2 rfl
  have hn1 : (vs.length + [Value.bool true].length) * 24 ≤ 140737488355328 := by have := l4.len; simp; omega
  have hst := fun (u v6 : Value) (w5 w6 : World) (ho : Own w5 5 u (b.map bv)) (hf : Fresh w4.heap.size u) (hx : Ext w4 w5) (h6 : Own w6 32 v6 (vs ++ [u])) (m6 : Mod (own ew) (w5.alloc (.cells #[u] 32)) w6) (n6 : Next (w5.alloc (.cells #[u] 32)).heap.size ew v6) =>
    lapp_fin (w := w) (X := X) h4 (fun k hk => ⟨hk.1, hk.2⟩) l4 sep hT hU m4 hb hes ho hf hx h6 m6 n6
  have hst2 : ∀ {u : Value} {w5 w6 : World}, Ext w4 w5 → Mod (own ew) (w5.alloc (.cells #[u] 32)) w6 → w6.cell? ⟨g, 4, none⟩ = some ew ∧ w6.frozen? ⟨g, 4, none⟩ = false ∧ w6.cell? ⟨g, 0, none⟩ = some (pv bd) := fun hx m6 => by
    have hb := (l4.blk.mod (hx.alloc _) (fun h => h)).mod m6 hng
    exact ⟨hb.cell 4, hb.frozen 4, hb.cell 0⟩
  have hown := fun {wx : World} (q : Ext w4 wx) => l4.ents.mod q (fun _ _ h => h)
  replace hst := Lib.hid hst
  clear l4 y4' y4 hy sep hT hU h4 m4 hr
  generalize b.length = bn at *
  generalize hbb : b.map bv = bb at *
  clear hbb
  go_region_law (first
      | ((with_reducible show (if Region.wanted (⟨some 41, _, _, _, _, _⟩ : Oper) _ = true then _ else _)); go_simp; (with_reducible refine hj.mono ?_); rintro e w5 ⟨u, rfl, o5, f5, q5⟩; obtain ⟨Au, cu, rfl⟩ := o5.shape; obtain ⟨e5, z5, k5⟩ := hev q5; obtain ⟨e6, z6, k6⟩ := hev (q5.alloc (.cells #[.slice Au bb.length cu] 32)))
      | (refine step_app 43 tyR (hown (q5.alloc (.cells #[.slice Au bb.length cu] 32))) (Sl.one w5 32 (.slice Au bb.length cu)) (fun x hx => by rw [List.mem_singleton.1 hx]; rfl) hn1 rfl rfl (.tmp 38) (.tmp 42) rfl rfl rfl ?_; intro v6 w6 o6 m6 n6; obtain ⟨A6, l6, c6, hv6⟩ : ∃ A n c, v6 = .slice A n c := (by obtain ⟨A, c, h⟩ := o6.shape; exact ⟨A, _, c, h⟩); subst hv6; obtain ⟨e7, z7, k7⟩ := hst2 q5 m6))
  all_goals
    have hfin := hst.out _ _ _ _ o5 f5 q5 o6 m6 n6
    clear hst hst2 hown hev hj
    go_wp2_with fail
    go_ret2
    exact ⟨rfl, hfin⟩
end
end Go.Proofs.YtnmfkfjeihjkeaaDoor
namespace Go.Proofs.YtnmfkfjeihjkeaaDoor
open Go.RowKit Go.Maps Go.WideMaps
set_option maxRecDepth 100000

def replD (d : Ds) (p : List UInt8) (n : Nat) (b : List UInt8) : Ds × Nat := bindD (saveD d (imgN p) (numB n b)) fun d1 => rmT d1 (logN p)
section
variable {T U V : Nat → Prop} {w w' : World} {g bd : Nat} {dv ew y : Value} {vs : List Value} {l : Lst} {d : Ds} {b : List UInt8} {n : Nat}
set_option maxHeartbeats 16000000 in
theorem repl_any (h : Dk T w (pv bd) d) (hl : LgAt U w g bd dv ew vs l) (sep : ∀ k, T k → ¬ U k) (hy : Bs w V y b) (hV : ∀ k, V k → k < w.heap.size) (hb : b.length ≤ 524288) (hn : n ≤ 1099511627777) (hN : Nib w) :
    Calls Tryd.prog 71 #[pv g, .int .i64 (n : Int), y] w fun e w' => e = .returned (.int .i64 ((replD d l.p n b).2 : Nat)) ∧ Dk (Grow T w) w' (pv bd) (replD d l.p n b).1 ∧ Mod T w w' := by
  have hblk : ∀ wj, Mod T w wj → Blk wj g 103 (lcells bd l dv ew) := fun wj m => hl.blk.mod m (fun hT => sep g hT hl.sg)
  have hcell : ∀ wj, Mod T w wj → wj.cell? ⟨g, 0, none⟩ = some (pv bd) := fun wj m => (hblk wj m).cell 0
  have hcc : ∀ {wj : World}, Ext w wj → wj.cell? ⟨g, 0, none⟩ = some (pv bd) := fun q => hcell _ (q.mono fun _ _ h => h.elim)
  have hlog : ∀ wj, Mod T w wj → Calls Tryd.prog 72 #[pv g] wj fun e w' => e = .returned (sv (logN l.p)) ∧ w' = wj := fun wj m => log_any (hblk wj m) hl.pl
  have himg : ∀ wj, Ext w wj → Calls Tryd.prog 66 #[pv g] wj fun e w' => e = .returned (sv (imgN l.p)) ∧ w' = wj := fun wj q => img_any (hblk wj (q.mono fun _ _ h => h.elim)) hl.pl
  obtain ⟨R, hR⟩ : ∃ R, R = replD d l.p n b := ⟨_, rfl⟩
  rw [← hR]
  unfold replD at hR
  replace hR := Lib.hid hR
  have hlen := numB_len n b hn (by omega)
  have q0 : Ext w w.drew := (Mod.refl _ w).drew
  have hnum : Calls Tryd.prog 99 #[.int .i64 (n : Int), y] w.drew fun e w' => ∃ u, e = .returned u ∧ Own w' 5 u ((numB n b).map bv) ∧ Ext w w' :=
    (numbered_any (hy.drewN 1) hV hn (by omega)).mono fun e w' ⟨u, q1, q2, _, q4⟩ => ⟨u, q1, q2, ext_trans q0 q4⟩
  have htl : (logN l.p).length ≤ 1000000 := by have := hl.pl; simp [logN]; omega
  have hil : (imgN l.p).length ≤ 1000000 := by have := hl.pl; simp [imgN]; omega
  have hsv : ∀ (wj : World) (u : Value), Ext w wj → Bs wj (own u) u (numB n b) → Calls Tryd.prog 15 #[pv bd, sv (imgN l.p), .slice (some ⟨wj.heap.size, 0, none⟩) 1 1] (wj.alloc (.cells #[u] 32)) fun e w' => e = .returned (.int .i64 ((saveD d (imgN l.p) (numB n b)).2 : Nat)) ∧ Dk (Grow T w) w' (pv bd) (saveD d (imgN l.p) (numB n b)).1 ∧ Mod T w w' := fun wj u q hu => by
    have xa : Ext w (wj.alloc (.cells #[u] 32)) := q.alloc _
    have := save_any (h.ext xa) (imgN l.p) hil (row_one hu) (hN.ext xa) (by simp; omega)
    rw [show ([numB n b] : Tx).flatten = numB n b by simp] at this
    exact this.mono fun e w' ⟨r1, r2, r3⟩ => ⟨r1, r2.mono fun k _ hk => hk.imp id fun hk => Nat.le_trans xa.size hk, (xa.mono (G := T) fun _ _ h => h.elim).then_ r3 fun _ _ h => h⟩
  clear hl hy hblk h
  generalize logN l.p = t at *
  generalize imgN l.p = i at *
  generalize numB n b = nb at *
  generalize saveD d i nb = r at *
  obtain ⟨d2, n2⟩ := r
  simp only at hsv
  go_enter Tryd.func71, Tryd.ntmps71
  go_wp2_with fail
  go_region_held3 (fun wx => wx.cell? ⟨g, 0, none⟩ = some (pv bd)) (first | exact hcc q0 | exact hcc q1 | exact hcc (q1.alloc _) | exact hkX)
    (first
      | (go_at_call 99; (with_reducible refine hnum.mono ?_); rintro e w1 ⟨u, rfl, o1, q1⟩; obtain ⟨Au, cu, hu⟩ := o1.shape; rw [List.length_map] at hu; have s1 := o1.sl; subst hu)
      | (go_at_call 66; (with_reducible refine (himg _ q0).mono ?_); rintro e wx ⟨rfl, rfl⟩)
      | (go_at_call 66; (with_reducible refine (himg _ q1).mono ?_); rintro e wx ⟨rfl, rfl⟩)
      | (go_at_call 66; (with_reducible refine (himg _ (q1.alloc _)).mono ?_); rintro e wx ⟨rfl, rfl⟩)
      | (go_at_call 15; (with_reducible refine (hsv _ _ q1 s1).mono ?_); rintro e w4 ⟨rfl, h4, m4⟩; have hkX := hcell _ m4))
  all_goals
    clear hsv hnum himg hcc s1 o1 q1 q0 hkX
    by_cases hn4 : n2 = 0
    case neg =>
      rw [bindD_err hn4] at hR
      have hb3 := n_ne0 hn4
      have hR2 := hR.out
      subst hR2
      clear hR
      go_wp2_with fail
      go_ret
      exact ⟨rfl, h4, m4⟩
    subst hn4
    rw [bindD_ok] at hR
    have hR2 := hR.out
    clear hR
    go_wp2_with fail
    have hz4 := m4.size
    have m0 : Mod T w w4.drew := m4.drew
    have hk0 := hcell _ m0
    have hc := lremove_any (h4.ext ((Mod.refl _ w4).drew)) t htl
    generalize rmT d2 t = r at hc hR2
    obtain ⟨d3, n3⟩ := r
    simp only at hc
    subst hR2
    have hfin : ∀ w5, Mod (Grow T w) w4.drew w5 → Mod T w w5 := fun w5 m => m0.trans m (fun _ _ h => h) (fun k hk h => h.elim id fun h => by omega)
    replace hfin := Lib.hid hfin
    go_region_held3 (fun wx => wx.cell? ⟨g, 0, none⟩ = some (pv bd)) (first | exact hk0 | exact hkX)
      (first
        | (go_at_call 72; (with_reducible refine (hlog _ m0).mono ?_); rintro e wx ⟨rfl, rfl⟩)
        | (go_at_call 65; (with_reducible refine hc.mono ?_); rintro e w5 ⟨rfl, h5, m5⟩; have hkX := hcell _ (hfin.out _ m5)))
    all_goals
      have hM5 := hfin.out _ m5
      clear hkX hk0 m0 m5 hc hfin
      go_wp2_with fail
      go_ret
      exact ⟨rfl, h5.mono fun k _ hk => hk.elim id fun hk => .inr (by have : w4.drew.heap.size = w4.heap.size := rfl; omega), hM5⟩
end
end Go.Proofs.YtnmfkfjeihjkeaaDoor
