/- disk: a file read; a Disk made. -/
import Derived.Test.YtblfhonfjljndaaDoorDkH
namespace Go.Proofs.YtblfhonfjljndaaDoor
open Go.RowKit Go.Maps Go.WideMaps
set_option maxRecDepth 100000

section
variable {S T F : Nat → Prop} {w w' : World} {bd bm : Nat} {D : DataW Unit} {G : Lay} {d : Ds} {v : Value}
/-- What is read: the bytes, or the error. -/
def readD (d : Ds) (x : List UInt8) : Option (List UInt8) := (getF d.L x).map Fi.b
def codeR : Option (List UInt8) → Nat
  | some _ => 0
  | none => 7
set_option maxHeartbeats 4000000 in
theorem read_any (h : Dk S w v d) (x : List UInt8) (hl : x.length ≤ 1000000) :
    Calls Tryd.prog 24 #[v, sv x] w fun e w' => ∃ u, e = .returned (.tuple #[u, ev (codeR (readD d x))]) ∧ Own w' 5 u (((readD d x).getD []).map bv) ∧ Fresh w.heap.size u ∧ Ext w w' := by
  obtain ⟨bd, bm, D, G, rfl, h⟩ := h
  have hM := h.map
  have c2 : w.cell? ⟨bd, 2, none⟩ = some (.map (some bm)) := h.blk.cell 2
  cases hx : getF d.L x with
  | none =>
    have hhas : has D (.string x) = false := by rw [h.of.has]; exact decide_eq_false (getF_none hx)
    have e : readD d x = none := by rw [readD, hx]; rfl
    rw [e]
    clear h hx e
    replace hhas := Lib.hid hhas
    go_enter Tryd.func24, Tryd.ntmps24
    go_wp2_with (at_lookup; refine wp_lookN hM (by omega) hhas.out rfl _ _ rfl rfl rfl ?_)
    go_ret2
    exact ⟨_, rfl, Own.nil _ _, fresh_nil _ _ _, Mod.refl _ _⟩
  | some f =>
    have hf := getF_mem hx
    have e : readD d x = some f.b := by rw [readD, hx]; rfl
    obtain rfl := getF_name hx
    rw [e]
    have hin : f.name ∈ nms d.L := List.mem_map.2 ⟨f, hf, rfl⟩
    have hhas : has D (.string f.name) = true := by rw [h.of.has]; exact decide_eq_true hin
    have hat := h.of.key _ hin
    have hlen : f.b.length ≤ sumB d.L := by
      have := sumB_delF (x := f.name) h.rise
      rw [getF_of_mem h.rise hf] at this
      simp only [lenB] at this
      omega
    have hc := owd_any (h.fo f hf).sl (by have := h.room; have := h.most; omega)
    obtain ⟨A, c, hv⟩ := (h.fo f hf).shape
    rw [List.length_map] at hv
    have g0 : w.cell? ⟨(G f.name).1, 0, none⟩ = some (G f.name).2 := (h.fb f hf).cell 0
    rw [hv] at g0 hc
    clear h hx e hin hf hlen hv
    generalize (G f.name).1 = g at *
    generalize f.name = x at *
    replace hhas := Lib.hid hhas
    replace hat := Lib.hid hat
    go_enter Tryd.func24, Tryd.ntmps24
    go_wp2_with (at_lookup; refine wp_lookS hM (by omega) hhas.out hat.out rfl _ _ rfl rfl rfl ?_)
    refine hc.mono ?_
    rintro e w1 ⟨u, rfl, o1, f1, _, x1⟩
    go_wp2_with fail
    go_ret2
    exact ⟨_, rfl, o1, f1, x1⟩
end
end Go.Proofs.YtblfhonfjljndaaDoor
namespace Go.Proofs.YtblfhonfjljndaaDoor
open Go.RowKit Go.Maps Go.WideMaps
set_option maxRecDepth 100000

section
variable {S T F : Nat → Prop} {w w' : World} {bd bm : Nat} {D : DataW Unit} {G : Lay} {d : Ds} {v : Value}
def newD (room : Int) : Ds := ⟨room.toNat, [], false, 0⟩
set_option maxHeartbeats 4000000 in
theorem new_any {w : World} (room : Int) (h0 : 0 ≤ room) (h1 : room ≤ 1073741824) :
    Calls Tryd.prog 6 #[.int .i64 room] w fun e w' => ∃ bd, e = .returned (.tuple #[pv bd, ev 0]) ∧ Dk (fun k => w.heap.size ≤ k) w' (pv bd) (newD room) ∧ w.heap.size ≤ bd ∧ Ext w w' := by
  have hmm : ∀ wx : World, (Instr.makeMap 53 none).run Tryd.prog wx = .ok (.map (some wx.heap.size)) (wx.alloc (.map #[] 0)) := fun wx => by simp [Instr.makeMap, run_underlying Tryd.underlying53, Result.andThen]
  have hfin : ∃ bd, bd = w.heap.size + 1 ∧ Dk (fun k => w.heap.size ≤ k) ((w.alloc (.map #[] 0)).alloc (.cells #[.int .i64 room, .int .i64 0, .map (some w.heap.size), .bool false, .int .i64 0] 55)) (pv bd) (newD room) ∧ w.heap.size ≤ bd ∧ Ext w ((w.alloc (.map #[] 0)).alloc (.cells #[.int .i64 room, .int .i64 0, .map (some w.heap.size), .bool false, .int .i64 0] 55)) := by
    obtain ⟨m, rfl⟩ := Int.eq_ofNat_of_zero_le h0
    have M0 : (w.alloc (.map #[] 0)).ownsMap Tryd.prog 9 ptrElem w.heap.size 0 (.map []) := World.ownsMap_made _ _ _ _
    have x1 : Ext w (w.alloc (.map #[] 0)) := (Mod.refl _ w).alloc _
    have hz : (w.alloc (.map #[] 0)).heap.size = w.heap.size + 1 := by simp
    have b1 := Blk.new (w.alloc (.map #[] 0)) 55 #[.int .i64 (m : Int), .int .i64 0, .map (some w.heap.size), .bool false, .int .i64 0]
    rw [hz] at b1
    refine ⟨_, rfl, ⟨_, w.heap.size, .map [], fun _ => (0, .slice none 0 0), rfl, ⟨by omega, Nat.le_refl _, b1, M0.alloc _, FilesOf.none _, List.Pairwise.nil, (fun f hf => by cases hf), (fun f hf => by cases hf), (fun f hf => by cases hf), (fun f hf => by cases hf), (fun f hf => by cases hf), Nat.zero_le _, by show (m : Int).toNat ≤ 1073741824; omega, Nat.zero_le _, Nat.zero_le _⟩⟩, by omega, x1.alloc _⟩
  obtain ⟨bd, hbd, hD, hle, hx⟩ := hfin
  replace hbd := Lib.hid hbd
  have hb1 : decide (room < 0) = false := dfalse (by omega)
  have hb2 : decide (1073741824 < room) = false := dfalse (by omega)
  go_enter Tryd.func6, Tryd.ntmps6
  go_wp2_with fail
  go_ret2
  exact ⟨bd, by rw [hbd.out]; rfl, hD, hle, hx⟩
end
end Go.Proofs.YtblfhonfjljndaaDoor
namespace Go.Proofs.YtblfhonfjljndaaDoor
open Go.RowKit Go.Maps Go.WideMaps
set_option maxRecDepth 100000

def appendD (d : Ds) (x : List UInt8) (P : Tx) : Ds × Nat :=
  if begD d [x] ≠ 0 then (d, begD d [x]) else if ¬ sumB d.L + tot P ≤ d.room then (d, 6) else match getF d.L x with
  | none => if 4096 ≤ d.L.length then (d, 6) else (doneD { d with L := putF d.L ⟨x, P.flatten, 0⟩ }, 0)
  | some f => (doneD { d with L := putF d.L ⟨f.name, f.b ++ P.flatten, f.last⟩ }, 0)
theorem flat_len (P : Tx) : P.flatten.length = tot P := by simp [tot, List.length_flatten]
section
variable {S T F : Nat → Prop} {w w' : World} {bd bm : Nat} {D : DataW Unit} {G : Lay} {d : Ds} {v : Value}
set_option maxHeartbeats 4000000 in
theorem append_err (h : DkAt S w bd bm D G d) (x : List UInt8) (v : Value) (hb : begD d [x] ≠ 0) :
    Calls Tryd.prog 19 #[pv bd, sv x, v] w fun e w' => e = .returned (ev (begD d [x])) ∧ Ext w w' := by
  have x0 : Ext w (w.alloc (.cells #[sv x] 9)) := (Mod.refl _ w).alloc _
  have hc := begin_any (h.mod x0 (fun _ _ _ h => h)) (one_name w x) (by simp)
  have hn := n_ne0 hb
  clear h
  generalize begD d [x] = n at *
  go_enter Tryd.func19, Tryd.ntmps19
  go_wp2_with fail
  refine hc.mono ?_
  rintro e w1 ⟨rfl, x1⟩
  clear hc hb
  go_wp2_with fail
  go_ret
  exact ⟨rfl, ext_trans x0 x1⟩
set_option maxHeartbeats 4000000 in
theorem append_full (h : DkAt S w bd bm D G d) (x : List UInt8) {v : Value} {P : Tx} (hv : Rw w T v P) (hp : P.length ≤ 1000000) (hb : begD d [x] = 0) (hno : ¬ sumB d.L + tot P ≤ d.room ∨ (getF d.L x = none ∧ 4096 ≤ d.L.length)) :
    Calls Tryd.prog 19 #[pv bd, sv x, v] w fun e w' => e = .returned (ev 6) ∧ Ext w w' := by
  have x0 : Ext w (w.alloc (.cells #[sv x] 9)) := (Mod.refl _ w).alloc _
  have h0 := h.mod x0 (fun _ _ _ h => h)
  have hc := begin_any h0 (one_name w x) (by simp)
  have hl := (begD_len hb (List.mem_singleton.2 rfl)).2
  rw [hb] at hc
  have hcf := fun (wx : World) (x1 : Ext w wx) => fits_any (h.mod x1 (fun _ _ _ h => h)) (hv.mod x1 (fun _ _ _ h => h)) hp
  have hM : ∀ wx, Ext w wx → wx.ownsMap Tryd.prog 9 ptrElem bm d.L.length D := fun wx x1 => (h.mod x1 (fun _ _ _ h => h)).map
  have hC : ∀ wx, Ext w wx → wx.cell? ⟨bd, 2, none⟩ = some (.map (some bm)) := fun wx x1 => (h.mod x1 (fun _ _ _ h => h)).blk.cell 2
  have hsz := h.of.size
  have hnk : getF d.L x = none → has D (.string x) = false := fun hx => by rw [h.of.has]; exact decide_eq_false (getF_none hx)
  have hsk : ∀ f, getF d.L x = some f → has D (.string x) = true ∧ D.atKey (.string x) .nil = .lit (.int .i64 ((G x).1 : Nat)) := fun f hx => by
    have hin : x ∈ nms d.L := getF_iff.2 (by rw [hx]; rfl)
    exact ⟨by rw [h.of.has]; exact decide_eq_true hin, h.of.key _ hin⟩
  clear h h0 hv
  by_cases hft : sumB d.L + tot P ≤ d.room
  · obtain ⟨hx, hmany⟩ := hno.resolve_left (fun h => h hft)
    have hhas := Lib.hid (hnk hx)
    have hbl : decide ((4096 : Int) ≤ (d.L.length : Nat)) = true := dtrue (by omega)
    rw [dtrue hft] at hcf
    clear hno hnk hsk hx hb
    go_enter Tryd.func19, Tryd.ntmps19
    go_wp2_with fail
    refine hc.mono ?_
    rintro e w1 ⟨rfl, x1⟩
    have y1 := ext_trans x0 x1
    have hM1 := hM w1 y1
    have hC1 := hC w1 y1
    have hcf1 := hcf w1 y1
    clear hc hcf
    go_wp2_with (at_lookup; refine wp_lookN hM1 (by omega) hhas.out rfl _ _ rfl rfl rfl ?_)
    refine hcf1.mono ?_
    rintro e w2 ⟨rfl, x2⟩
    have y2 := ext_trans y1 x2
    have hM2 := (hM w2 y2).len Tryd.underlying53 3
    rw [hsz] at hM2
    have hC2 := hC w2 y2
    clear hM hC hM1 hcf1 hC1
    generalize d.L.length = n at *
    go_wp2_with fail
    go_ret
    exact ⟨rfl, y2⟩
  · rw [dfalse hft] at hcf
    clear hno hft hsz
    cases hx : getF d.L x with
    | none =>
      have hhas := Lib.hid (hnk hx)
      clear hnk hsk hx hb
      go_enter Tryd.func19, Tryd.ntmps19
      go_wp2_with fail
      refine hc.mono ?_
      rintro e w1 ⟨rfl, x1⟩
      have y1 := ext_trans x0 x1
      have hM1 := hM w1 y1
      have hC1 := hC w1 y1
      have hcf1 := hcf w1 y1
      clear hc hcf
      go_wp2_with (at_lookup; refine wp_lookN hM1 (by omega) hhas.out rfl _ _ rfl rfl rfl ?_)
      refine hcf1.mono ?_
      rintro e w2 ⟨rfl, x2⟩
      clear hM hC hM1 hcf1 hC1
      go_wp2_with fail
      go_ret
      exact ⟨rfl, ext_trans y1 x2⟩
    | some f =>
      have hhas := Lib.hid (hsk f hx).1
      have hat := Lib.hid (hsk f hx).2
      clear hnk hsk hx hb
      go_enter Tryd.func19, Tryd.ntmps19
      go_wp2_with fail
      refine hc.mono ?_
      rintro e w1 ⟨rfl, x1⟩
      have y1 := ext_trans x0 x1
      have hM1 := hM w1 y1
      have hC1 := hC w1 y1
      have hcf1 := hcf w1 y1
      clear hc hcf
      go_wp2_with (at_lookup; refine wp_lookS hM1 (by omega) hhas.out hat.out rfl _ _ rfl rfl rfl ?_)
      refine hcf1.mono ?_
      rintro e w2 ⟨rfl, x2⟩
      clear hM hC hM1 hcf1 hC1
      go_wp2_with fail
      go_ret
      exact ⟨rfl, ext_trans y1 x2⟩
end
end Go.Proofs.YtblfhonfjljndaaDoor
namespace Go.Proofs.YtblfhonfjljndaaDoor
open Go.RowKit Go.Maps Go.WideMaps
set_option maxRecDepth 100000

section
variable {S T F : Nat → Prop} {w w' w1 : World} {bd bm : Nat} {D : DataW Unit} {G : Lay} {d : Ds} {v : Value}
theorem flat_snoc2 (P : Tx) (k : Nat) (h : k < P.length) : (P.take (k + 1)).flatten = (P.take k).flatten ++ P[k] := by
  rw [List.take_succ_eq_append_getElem h, List.flatten_append]
  simp
/-- The file f is being written: its bytes are b. -/
structure Wrd (w1 w : World) (bd bm g : Nat) (fv : Value) (d : Ds) (f : Fi) (b : List UInt8) (u : Value) : Prop where
  ow : Own w 5 u (b.map bv)
  nx : Next w1.heap.size fv u
  fi : Blk w g 70 (fcells u f.last)
  bk : Blk w bd 55 #[.int .i64 (d.room : Int), .int .i64 (sumB d.L - f.b.length + b.length : Nat), .map (some bm), .bool d.fu, .int .i64 (d.left : Int)]
  md : Mod (fun k => k = bd ∨ k = g ∨ own fv k) w1 w
theorem len_le_sum {L : Fis} (h : Rise L) {f : Fi} (hf : f ∈ L) : f.b.length ≤ sumB L := by
  have := sumB_delF (x := f.name) h
  rw [getF_of_mem h hf] at this
  simp only [lenB] at this
  omega
theorem Wrd.start (h : DkAt S w1 bd bm D G d) {f : Fi} (hf : f ∈ d.L) : Wrd w1 w1 bd bm (G f.name).1 (G f.name).2 d f f.b (G f.name).2 := by
  have hlen := len_le_sum h.rise hf
  refine ⟨h.fo f hf, .inl rfl, h.fb f hf, ?_, Mod.refl _ _⟩
  have := h.blk
  rw [dcells] at this
  rw [show sumB d.L - f.b.length + f.b.length = sumB d.L by omega]
  exact this
theorem Wrd.end_ (h : DkAt S w1 bd bm D G d) {f : Fi} (hf : f ∈ d.L) {b : List UInt8} {u : Value} (r : Wrd w1 w bd bm (G f.name).1 (G f.name).2 d f b u) (hroom : sumB d.L + b.length ≤ d.room + f.b.length) (hbl : f.b.length ≤ b.length) :
    DkAt (fun k => S k ∨ w1.heap.size ≤ k) w bd bm D (upd G f.name ((G f.name).1, u)) { d with L := putF d.L ⟨f.name, b, f.last⟩ } := by
  have hsum := (sumB_putF (f := ⟨f.name, b, f.last⟩) h.rise).1
  rw [show (⟨f.name, b, f.last⟩ : Fi).name = f.name from rfl, getF_of_mem h.rise hf] at hsum
  simp only [lenB] at hsum
  have hlen := len_le_sum h.rise hf
  refine h.file hf r.md (fun _ _ h => h) r.nx ?_ r.fi r.ow (Nat.le_trans (h.fl f hf).1 hbl) hroom h.lf
  have := r.bk
  rw [show sumB d.L - f.b.length + b.length = sumB (putF d.L ⟨f.name, b, f.last⟩) by omega] at this
  exact this
theorem Wrd.step {g : Nat} {fv u v6 : Value} {f : Fi} {b row : List UInt8} {w6 : World} (r : Wrd w1 w bd bm g fv d f b u) (hne : ¬ g = bd) (hlen : f.b.length ≤ sumB d.L) (o6 : Own w6 5 v6 (b.map bv ++ row.map bv)) (m6 : Mod (own u) w w6) (n6 : Next w.heap.size u v6) :
    w6.cell? ⟨g, 0, none⟩ = some u ∧ w6.frozen? ⟨g, 0, none⟩ = false ∧ w6.cell? ⟨bd, 1, none⟩ = some (.int .i64 (sumB d.L - f.b.length + b.length : Nat)) ∧ w6.frozen? ⟨bd, 1, none⟩ = false ∧
    ∀ x : Int, x = (sumB d.L - f.b.length + b.length : Nat) + (row.length : Int) → Wrd w1 ((w6.setCell ⟨g, 0, none⟩ v6).setCell ⟨bd, 1, none⟩ (.int .i64 x)) bd bm g fv d f (b ++ row) v6 := by
  have n1 : ∀ k, own u k → k ≠ g ∧ k ≠ bd := fun k hk => by
    obtain ⟨cur, hc⟩ := r.ow.ty hk
    exact ⟨by rintro rfl; exact absurd (hc.ty_eq r.fi) (by decide), by rintro rfl; exact absurd (hc.ty_eq r.bk) (by decide)⟩
  have f6 := r.fi.mod m6 fun h => (n1 _ h).1 rfl
  have b6 := r.bk.mod m6 fun h => (n1 _ h).2 rfl
  have n2 : ∀ k, own v6 k → k ≠ g ∧ k ≠ bd := fun k hk => by
    obtain ⟨cur, hc⟩ := o6.ty hk
    exact ⟨by rintro rfl; exact absurd (hc.ty_eq f6) (by decide), by rintro rfl; exact absurd (hc.ty_eq b6) (by decide)⟩
  refine ⟨f6.cell 0, f6.frozen 0, b6.cell 1, b6.frozen 1, fun x hx => ?_⟩
  have hx' : x = (sumB d.L - f.b.length + (b ++ row).length : Nat) := by rw [List.length_append]; omega
  subst hx'
  have ms : Mod (fun k => k = bd ∨ k = g) w6 ((w6.setCell ⟨g, 0, none⟩ v6).setCell ⟨bd, 1, none⟩ (.int .i64 (sumB d.L - f.b.length + (b ++ row).length : Nat))) :=
    ((Mod.refl _ w6).setCell (p := ⟨g, 0, none⟩) (fun _ => .inr rfl) _).setCell (p := ⟨bd, 1, none⟩) (fun _ => .inl rfl) _
  refine ⟨?_, r.nx.trans n6 r.md.size, (f6.set_ 0 v6).far (p := ⟨bd, 1, none⟩) hne _, (b6.far (p := ⟨g, 0, none⟩) (fun e => hne e.symm) _).set_ 1 _, (r.md.then_ m6 fun k hk h => .inr (.inr (r.nx.sub hk h))).then_ ms fun k _ h => h.elim .inl fun e => .inr (.inl e)⟩
  rw [List.map_append]
  exact o6.mod ms fun k hk => fun h => h.elim (n2 k hk).2 (n2 k hk).1
end
set_option maxHeartbeats 16000000 in
theorem append_some {S T : Nat → Prop} {w : World} {bd bm : Nat} {D : DataW Unit} {G : Lay} {d : Ds} (h : DkAt S w bd bm D G d) {f : Fi} (hf : f ∈ d.L) {v : Value} {P : Tx} (hv : Rw w T v P) (hsep : ∀ k, T k → ¬ S k) (hp : P.length ≤ 1000000) (hb : begD d [f.name] = 0) (hft : sumB d.L + tot P ≤ d.room) :
    Calls Tryd.prog 19 #[pv bd, sv f.name, v] w fun e w' => e = .returned (ev 0) ∧ Dk (Grow S w) w' (pv bd) (doneD { d with L := putF d.L ⟨f.name, f.b ++ P.flatten, f.last⟩ }) ∧ Mod S w w' := by
  have x0 : Ext w (w.alloc (.cells #[sv f.name] 9)) := (Mod.refl _ w).alloc _
  have h0 := h.mod x0 (fun _ _ _ h => h)
  have hc := begin_any h0 (one_name w f.name) (by simp)
  have hl := (begD_len hb (List.mem_singleton.2 rfl)).2
  have hlf := begD_left hb
  rw [hb] at hc
  have hcf := fun (wx : World) (x1 : Ext w wx) => fits_any (h.mod x1 (fun _ _ _ h => h)) (hv.mod x1 (fun _ _ _ h => h)) hp
  rw [dtrue hft] at hcf
  have hin : f.name ∈ nms d.L := List.mem_map.2 ⟨f, hf, rfl⟩
  have hhas := Lib.hid (show has D (.string f.name) = true by rw [h.of.has]; exact decide_eq_true hin)
  have hat := Lib.hid (h.of.key _ hin)
  have hM : ∀ wx, Ext w wx → wx.ownsMap Tryd.prog 9 ptrElem bm d.L.length D := fun wx x1 => (h.mod x1 (fun _ _ _ h => h)).map
  have hC : ∀ wx, Ext w wx → wx.cell? ⟨bd, 2, none⟩ = some (.map (some bm)) := fun wx x1 => (h.mod x1 (fun _ _ _ h => h)).blk.cell 2
  obtain ⟨A, c, vs, rfl, p1, p2, p3, p0, p5, p6⟩ := hv.open_
  clear h0 hb hin hv
  go_enter Tryd.func19, Tryd.ntmps19
  go_wp2_with fail
  refine hc.mono ?_
  rintro e w1 ⟨rfl, x1⟩
  have y1 := ext_trans x0 x1
  have hM1 := hM w1 y1
  have hC1 := hC w1 y1
  have hcf1 := hcf w1 y1
  clear hc hcf hM hC x1
  go_wp2_with (at_lookup; refine wp_lookS hM1 (by omega) hhas.out hat.out rfl _ _ rfl rfl rfl ?_)
  refine hcf1.mono ?_
  rintro e w2 ⟨rfl, x2⟩
  have y2 := ext_trans y1 x2
  have h2 := h.mod y2 (fun _ _ _ h => h)
  have r0 := Wrd.start h2 hf
  have hS1 := h.sd
  have hFS := Lib.hid (show ∀ k, k < w.heap.size → (k = bd ∨ k = (G f.name).1 ∨ own (G f.name).2 k) → S k from fun k _ hk => hk.elim (fun e => e ▸ h.sd) fun hk => hk.elim (fun e => e ▸ (h.fs f hf).1) ((h.fs f hf).2 k))
  have m0 : Mod S w w2 := y2.mono (G := S) fun _ _ h => h.elim
  have hne : ¬ (G f.name).1 = bd := h.bd_ne hf
  have hne2 : ¬ bd = (G f.name).1 := fun e => hne e.symm
  have hend := fun (b : List UInt8) (u : Value) (wx : World) (r : Wrd w2 wx bd bm (G f.name).1 (G f.name).2 d f b u) => r.end_ h2 hf
  have hown := fun k (hk : own (G f.name).2 k) => h.own_ne hf hk
  have hlen := len_le_sum h.rise hf
  have hmost := h.most
  have hup : w.heap.size ≤ w2.heap.size := y2.size
  have hflt := flat_len P
  have hown2 : ∀ k, own (G f.name).2 k → k < w2.heap.size := fun k hk => (h2.fo f hf).lt hk
  replace hend := Lib.hid hend
  replace hown := Lib.hid hown
  replace hown2 := Lib.hid hown2
  clear h h2 hcf1 hM1 hC1 hhas hat y1 x0
  generalize (G f.name).1 = g at *
  generalize (G f.name).2 = fv at *
  go_wp2_with fail
  go_loopw [54] (fun i wr => ∃ (k : Nat) (b : List UInt8) (u : Value), k ≤ P.length ∧ i = .int .i64 k ∧ Hid (b = f.b ++ (P.take k).flatten) ∧ Wrd w2 wr bd bm g fv d f b u) (fun i _ => P.length - (intOf i).toNat)
  case atStart => exact ⟨0, f.b, fv, Nat.zero_le _, rfl, Lib.hid (by simp), r0⟩
  case round =>
    clear r0
    obtain ⟨k, b, u, hk, rfl, hb, r⟩ := hrel
    have htl := tot_le P k
    have hbt : b.length = f.b.length + tot (P.take k) := by rw [hb.out, List.length_append, flat_len]
    by_cases hlt : k < P.length
    case neg =>
      have hbl : decide ((k : Int) < (P.length : Int)) = false := dfalse (by omega)
      have hb' : b = f.b ++ P.flatten := by rw [hb.out, List.take_of_length_le (by omega)]
      subst hb'
      have h3 := hend.out _ _ _ r (by rw [List.length_append, hflt]; omega) (by rw [List.length_append]; omega)
      have hcd := done_any h3 hlf
      have m3 : Mod S w wr := m0.then_ r.md hFS.out
      clear hend h3 r hb hbt htl
      go_wp2_with fail
      refine hcd.mono ?_
      rintro e w3 ⟨rfl, h3, m4⟩
      clear hcd
      go_wp2_with fail
      go_ret
      refine ⟨rfl, ⟨bd, bm, D, _, rfl, h3.mono fun k _ hk => ?_⟩, m3.then_ m4 fun k _ hk => hk ▸ hS1⟩
      rcases hk with hk | hk
      · exact .inl hk
      · exact .inr (Nat.le_trans hup hk)
    have hbl : decide ((k : Int) < (P.length : Int)) = true := dtrue (by omega)
    have m2 : Mod S w wr := m0.then_ r.md hFS.out
    obtain ⟨ad, y, hA, hc, hB⟩ := row_now p0 p5 p6 m2 (fun k _ hk => hsep k hk) hlt
    have hB' := hB.mod m2 (fun k _ hk => hsep k hk)
    subst hA
    have hi0 : (0 : Int) ≤ (k : Int) := by omega
    have hi1 : (k : Int) < (P.length : Int) := by omega
    have hst := Lib.hid (show b ++ P[k] = f.b ++ (P.take (k + 1)).flatten by rw [flat_snoc2 P k hlt, hb.out, List.append_assoc])
    have htl2 := tot_le P (k + 1)
    have hsn := tot_snoc P k hlt
    have hfit : b.length + P[k].length ≤ 1073741824 := by simp only [tot] at *; omega
    clear hb hend m2 hB hsn htl2 htl
    generalize P[k] = row at *
    obtain ⟨B, cc, rfl, j1, j2, j3, j4⟩ := hB'.open_
    have hB := hB'
    have g0 : wr.cell? ⟨g, 0, none⟩ = some u := r.fi.cell 0
    have hgb : ((b.map bv).length + (row.map bv).length) * 1 ≤ 140737488355328 := by rw [List.length_map, List.length_map]; omega
    have ro := r.ow
    have hstep := fun (w6 : World) (v6 : Value) => r.step (w6 := w6) (v6 := v6) (row := row) hne hlen
    have hw : ∀ m : Nat, m ≤ 3000000000 → IntKind.i64.wrap ((m : Int) + (row.length : Int)) = (m : Int) + (row.length : Int) := fun m hm => by rw [IntKind.wrap_i64]; omega
    have hub : sumB d.L - f.b.length + b.length ≤ 3000000000 := by omega
    replace hstep := Lib.hid hstep
    clear hB' j4 p5 p6 hw hbt
    go_wp2_with ((with_reducible show wpList _ _ _ (⟨some 64, _, _, _, _, _⟩ :: _) _ _); refine wp_app tyB ro (hB) (bv_one row) rfl (.tmp 62) (.tmp 63) rfl rfl rfl hgb ?_; intro v6 w6 o6 m6 n6; have hs6 := hstep.out w6 v6 o6 m6 n6; clear hstep ro r; obtain ⟨A6, c6, rfl⟩ := o6.shape; obtain ⟨q0, q1, q2, q3, q4⟩ := hs6; replace q4 := Lib.hid q4; rw [List.length_append, List.length_map, List.length_map] at *)
    exact ⟨⟨k + 1, _, _, by omega, by go_num, hst, q4.out _ (by omega)⟩, by simp [intOf] <;> omega⟩
end Go.Proofs.YtblfhonfjljndaaDoor
namespace Go.Proofs.YtblfhonfjljndaaDoor
open Go.RowKit Go.Maps Go.WideMaps
set_option maxRecDepth 100000

set_option maxHeartbeats 16000000 in
theorem append_new {S T : Nat → Prop} {w : World} {bd bm : Nat} {D : DataW Unit} {G : Lay} {d : Ds} (h : DkAt S w bd bm D G d) {x : List UInt8} (hx : getF d.L x = none) {v : Value} {P : Tx} (hv : Rw w T v P) (hsep : ∀ k, T k → ¬ S k) (hp : P.length ≤ 1000000) (hb : begD d [x] = 0) (hft : sumB d.L + tot P ≤ d.room) (hfew : d.L.length < 4096) :
    Calls Tryd.prog 19 #[pv bd, sv x, v] w fun e w' => e = .returned (ev 0) ∧ Dk (Grow S w) w' (pv bd) (doneD { d with L := putF d.L ⟨x, P.flatten, 0⟩ }) ∧ Mod S w w' := by
  have x0 : Ext w (w.alloc (.cells #[sv x] 9)) := (Mod.refl _ w).alloc _
  have h0 := h.mod x0 (fun _ _ _ h => h)
  have hc := begin_any h0 (one_name w x) (by simp)
  have hl := (begD_len hb (List.mem_singleton.2 rfl))
  have hlf := begD_left hb
  rw [hb] at hc
  have hcf := fun (wx : World) (x1 : Ext w wx) => fits_any (h.mod x1 (fun _ _ _ h => h)) (hv.mod x1 (fun _ _ _ h => h)) hp
  rw [dtrue hft] at hcf
  have hhas := Lib.hid (show has D (.string x) = false by rw [h.of.has]; exact decide_eq_false (getF_none hx))
  have hM : ∀ wx, Ext w wx → wx.ownsMap Tryd.prog 9 ptrElem bm d.L.length D := fun wx x1 => (h.mod x1 (fun _ _ _ h => h)).map
  have hC : ∀ wx, Ext w wx → wx.cell? ⟨bd, 2, none⟩ = some (.map (some bm)) := fun wx x1 => (h.mod x1 (fun _ _ _ h => h)).blk.cell 2
  have hsz := h.of.size
  have hbl0 : decide ((4096 : Int) ≤ (d.L.length : Nat)) = false := dfalse (by omega)
  obtain ⟨A, c, vs, rfl, p1, p2, p3, p0, p5, p6⟩ := hv.open_
  have hxn := getF_none hx
  clear h0 hb hv
  go_enter Tryd.func19, Tryd.ntmps19
  go_wp2_with fail
  refine hc.mono ?_
  rintro e w1 ⟨rfl, x1⟩
  have y1 := ext_trans x0 x1
  have hM1 := hM w1 y1
  have hC1 := hC w1 y1
  have hcf1 := hcf w1 y1
  clear hc hcf x1
  go_wp2_with (at_lookup; refine wp_lookN hM1 (by omega) hhas.out rfl _ _ rfl rfl rfl ?_)
  refine hcf1.mono ?_
  rintro e w2 ⟨rfl, x2⟩
  have y2 := ext_trans y1 x2
  have hM2 := (hM w2 y2).len Tryd.underlying53 3
  rw [hsz] at hM2
  have hC2 := hC w2 y2
  clear hM hC hM1 hC1 hcf1
  have h2 := (h.mod y2 (fun _ _ _ h => h)).mono (T := Grow S w) fun _ _ h => .inl h
  have xa : Ext w2 (w2.alloc (.cells #[.slice none 0 0, .int .i64 0] 70)) := (Mod.refl _ w2).alloc _
  have ya := ext_trans y2 xa
  have hcp := put_any (h2.mod xa (fun _ _ _ h => h)) hxn hl (Blk.new w2 70 #[.slice none 0 0, .int .i64 0]) (fun f hf e => by have := (h2.fb f hf).lt; omega) hfew (.inr y2.size)
  have hS1 := h.sd
  have hbm := h.sm
  have hg1 : w.heap.size ≤ w2.heap.size := y2.size
  have hlast := (sumB_putF (f := ⟨x, [], 0⟩) h.rise).1
  rw [show (⟨x, [], 0⟩ : Fi).name = x from rfl, hx] at hlast
  simp only [lenB, List.length_nil, Nat.add_zero] at hlast
  have hput2 := fun b => putF_put (f := ⟨x, [], 0⟩) (g := ⟨x, b, 0⟩) h.rise rfl
  have hin : (⟨x, [], 0⟩ : Fi) ∈ putF d.L ⟨x, [], 0⟩ := (mem_putF h.rise _).2 (.inl rfl)
  have hroom := h.room
  have hmost := h.most
  clear h h2 hx
  generalize d.L.length = nL at *
  go_wp2_with fail
  refine hcp.mono ?_
  rintro e w3 ⟨rfl, h3, m23⟩
  have hne : ¬ w2.heap.size = bd := fun e => by
    have := h3.bd_ne hin
    rw [upd_same] at this
    exact this e
  have m0 : Mod S w w3 := (ya.mono (G := S) fun _ _ h => h.elim).then_ m23 fun k _ hk => hk ▸ hbm
  have hFS := Lib.hid (show ∀ k, k < w.heap.size → (k = bd ∨ k = w2.heap.size ∨ own (.slice none 0 0) k) → S k from fun k hk0 hk => hk.elim (fun e => e ▸ hS1) fun hk => hk.elim (fun e => by omega) fun hk => by simp [own, Value.ownBlock] at hk)
  have r0 : Wrd w3 w3 bd bm w2.heap.size (.slice none 0 0) { d with L := putF d.L ⟨x, [], 0⟩ } ⟨x, [], 0⟩ [] (.slice none 0 0) := by
    have := Wrd.start h3 hin
    rwa [show upd G x (w2.heap.size, Value.slice none 0 0) (⟨x, [], 0⟩ : Fi).name = (w2.heap.size, Value.slice none 0 0) from upd_same _ _ _] at this
  have hend : ∀ (b : List UInt8) (u : Value) (wx : World), Wrd w3 wx bd bm w2.heap.size (.slice none 0 0) { d with L := putF d.L ⟨x, [], 0⟩ } ⟨x, [], 0⟩ b u → sumB d.L + b.length ≤ d.room →
      ∃ D' G', DkAt (Grow S w) wx bd bm D' G' { d with L := putF d.L ⟨x, b, 0⟩ } := fun b u wx r hr => by
    have := Wrd.end_ h3 hin (b := b) (u := u) (w := wx) (by rw [show upd G x (w2.heap.size, Value.slice none 0 0) (⟨x, [], 0⟩ : Fi).name = (w2.heap.size, Value.slice none 0 0) from upd_same _ _ _]; exact r) (by show sumB (putF d.L ⟨x, [], 0⟩) + b.length ≤ d.room + 0; omega) (Nat.zero_le _)
    have t2 := this.mono (T := Grow S w) fun k _ hk => hk.elim id fun hk => .inr (Nat.le_trans m0.size hk)
    have e3 : ({ d with L := putF d.L ⟨x, b, 0⟩ } : Ds) = { d with L := putF (putF d.L ⟨x, [], 0⟩) ⟨x, b, 0⟩ } := by rw [hput2 b]
    rw [e3]
    exact ⟨_, _, t2⟩
  have hup : w.heap.size ≤ w3.heap.size := m0.size
  have hflt := flat_len P
  replace hend := Lib.hid hend
  replace hput2 := Lib.hid hput2
  have hlen : ([] : List UInt8).length ≤ sumB (putF d.L ⟨x, [], 0⟩) := Nat.zero_le _
  clear hcp h3 m23 hin hM2 hbl0 hhas hsz xa ya y1 x0
  generalize w2.heap.size = g at *
  go_wp2_with fail
  go_loopw [54] (fun i wr => ∃ (k : Nat) (b : List UInt8) (u : Value), k ≤ P.length ∧ i = .int .i64 k ∧ Hid (b = (P.take k).flatten) ∧ Wrd w3 wr bd bm g (.slice none 0 0) { d with L := putF d.L ⟨x, [], 0⟩ } ⟨x, [], 0⟩ b u) (fun i _ => P.length - (intOf i).toNat)
  case atStart => exact ⟨0, [], .slice none 0 0, Nat.zero_le _, rfl, Lib.hid (by simp), r0⟩
  case round =>
    clear r0
    obtain ⟨k, b, u, hk, rfl, hb, r⟩ := hrel
    have htl := tot_le P k
    have hbt : b.length = tot (P.take k) := by rw [hb.out, flat_len]
    by_cases hlt : k < P.length
    case neg =>
      have hbl : decide ((k : Int) < (P.length : Int)) = false := dfalse (by omega)
      have hb' : b = P.flatten := by rw [hb.out, List.take_of_length_le (by omega)]
      subst hb'
      obtain ⟨D', G', h4⟩ := hend.out _ _ _ r (by rw [hflt]; omega)
      have hcd := done_any h4 hlf
      have m3 : Mod S w wr := m0.then_ r.md hFS.out
      clear hend h4 r hb hbt htl
      go_wp2_with fail
      refine hcd.mono ?_
      rintro e w4 ⟨rfl, h4, m4⟩
      clear hcd
      go_wp2_with fail
      go_ret
      exact ⟨rfl, ⟨bd, bm, D', G', rfl, h4⟩, m3.then_ m4 fun k _ hk => hk ▸ hS1⟩
    have hbl : decide ((k : Int) < (P.length : Int)) = true := dtrue (by omega)
    have m2 : Mod S w wr := m0.then_ r.md hFS.out
    obtain ⟨ad, y, hA, hc, hB⟩ := row_now p0 p5 p6 m2 (fun k _ hk => hsep k hk) hlt
    have hB' := hB.mod m2 (fun k _ hk => hsep k hk)
    subst hA
    have hi0 : (0 : Int) ≤ (k : Int) := by omega
    have hi1 : (k : Int) < (P.length : Int) := by omega
    have hst := Lib.hid (show b ++ P[k] = (P.take (k + 1)).flatten by rw [flat_snoc2 P k hlt, hb.out])
    have htl2 := tot_le P (k + 1)
    have hsn := tot_snoc P k hlt
    have hfit : b.length + P[k].length ≤ 1073741824 := by simp only [tot] at *; omega
    clear hb hend m2 hB hsn htl2 htl
    generalize P[k] = row at *
    obtain ⟨B, cc, rfl, j1, j2, j3, j4⟩ := hB'.open_
    have hB := hB'
    have g0 : wr.cell? ⟨g, 0, none⟩ = some u := r.fi.cell 0
    have hgb : ((b.map bv).length + (row.map bv).length) * 1 ≤ 140737488355328 := by rw [List.length_map, List.length_map]; omega
    have ro := r.ow
    have hstep := fun (w6 : World) (v6 : Value) => r.step (w6 := w6) (v6 := v6) (row := row) hne hlen
    have hub : sumB (putF d.L ⟨x, [], 0⟩) - ([] : List UInt8).length + b.length ≤ 3000000000 := by rw [List.length_nil]; omega
    replace hstep := Lib.hid hstep
    clear hB' j4 p5 p6 hbt
    go_wp2_with ((with_reducible show wpList _ _ _ (⟨some 64, _, _, _, _, _⟩ :: _) _ _); refine wp_app tyB ro (hB) (bv_one row) rfl (.tmp 62) (.tmp 63) rfl rfl rfl hgb ?_; intro v6 w6 o6 m6 n6; have hs6 := hstep.out w6 v6 o6 m6 n6; clear hstep ro r; obtain ⟨A6, c6, rfl⟩ := o6.shape; obtain ⟨q0, q1, q2, q3, q4⟩ := hs6; replace q4 := Lib.hid q4; rw [List.length_append, List.length_map, List.length_map] at *)
    exact ⟨⟨k + 1, _, _, by omega, by go_num, hst, q4.out _ (by simp only [List.length_nil] at *; omega)⟩, by simp [intOf] <;> omega⟩
end Go.Proofs.YtblfhonfjljndaaDoor
namespace Go.Proofs.YtblfhonfjljndaaDoor
open Go.RowKit Go.Maps Go.WideMaps
set_option maxRecDepth 100000

def eachD (step : Ds → List UInt8 → Ds × Nat) : Ds → Tx → Ds × Nat
  | d, [] => (d, 0)
  | d, x :: L => if (step d x).2 ≠ 0 then step d x else eachD step (step d x).1 L
theorem eachD_err {step : Ds → List UInt8 → Ds × Nat} {d : Ds} {x : List UInt8} {L : Tx} (h : (step d x).2 ≠ 0) : eachD step d (x :: L) = step d x := by rw [eachD, if_pos h]
theorem eachD_ok {step : Ds → List UInt8 → Ds × Nat} {d : Ds} {x : List UInt8} {L : Tx} (h : (step d x).2 = 0) : eachD step d (x :: L) = eachD step (step d x).1 L := by rw [eachD, if_neg (by simpa using h)]
set_option maxHeartbeats 8000000 in
theorem each_sync {S T : Nat → Prop} {w : World} {d : Ds} {v y : Value} {L : Tx} (h : Dk S w v d) (hy : Ts w T y L) (hsep : ∀ k, T k → ¬ S k) :
    Calls Tryd.prog 50 #[v, y, .func (.func 52) #[v] #[]] w fun e w' => e = .returned (ev (eachD syncD d L).2) ∧ Dk (Grow S w) w' v (eachD syncD d L).1 ∧ Mod S w w' := by
  obtain ⟨A, c, rfl, h1, h2, h3, h4⟩ := hy.open_
  clear hy
  have hp : ∃ bd, v = pv bd := by obtain ⟨bd, _, _, _, e, _⟩ := h; exact ⟨bd, e⟩
  obtain ⟨bd, rfl⟩ := hp
  obtain ⟨R, hR⟩ : ∃ R, R = eachD syncD d L := ⟨_, rfl⟩
  rw [← hR]
  replace hR := Lib.hid hR
  go_enter Tryd.func50, Tryd.ntmps50
  go_wp2_with fail
  go_loopw [14] (fun i wr => ∃ (k : Nat) (d' : Ds), k ≤ L.length ∧ i = .int .i64 k ∧ Hid (eachD syncD d' (L.drop k) = R) ∧ Dk (Grow S w) wr (pv bd) d' ∧ Mod S w wr) (fun i _ => L.length - (intOf i).toNat)
  case atStart => exact ⟨0, d, Nat.zero_le _, rfl, Lib.hid hR.out.symm, h.grow w, Mod.refl _ _⟩
  case round =>
    clear h
    obtain ⟨k, d', hk, rfl, hs, hd, hm⟩ := hrel
    by_cases hlt : k < L.length
    case neg =>
      have hbl : decide ((k : Int) < (L.length : Int)) = false := dfalse (by omega)
      have he : R = (d', 0) := by
        have := hs.out
        rw [List.drop_of_length_le (by omega)] at this
        exact this.symm
      clear hs hR
      subst he
      go_wp2_with fail
      go_ret
      exact ⟨rfl, hd, hm⟩
    have hbl : decide ((k : Int) < (L.length : Int)) = true := dtrue (by omega)
    obtain ⟨ad, hA, hS, c0⟩ := (Cells.mod h4 hm (fun k _ hk => hsep k hk)).at_ hlt
    subst hA
    have hi0 : (0 : Int) ≤ (k : Int) := by omega
    have hi1 : (k : Int) < (L.length : Int) := by omega
    have hdr : L.drop k = L[k] :: L.drop (k + 1) := List.drop_eq_getElem_cons hlt
    have hc := sync_any hd L[k]
    have hsz := hm.size
    have hst1 : (syncD d' L[k]).2 ≠ 0 → R = syncD d' L[k] := fun h => by rw [← hs.out, hdr, eachD_err h]
    have hst2 : (syncD d' L[k]).2 = 0 → Hid (eachD syncD (syncD d' L[k]).1 (L.drop (k + 1)) = R) := fun h => Lib.hid (by rw [← hs.out, hdr, eachD_ok h])
    have hmono : ∀ {wx : World} {dx : Ds}, Dk (Grow (Grow S w) wr) wx (pv bd) dx → Dk (Grow S w) wx (pv bd) dx := fun h => h.mono fun k _ hk => hk.elim id fun hk => .inr (Nat.le_trans hsz hk)
    have hmm : ∀ {wx : World}, Mod (Grow S w) wr wx → Mod S w wx := fun h => hm.trans h (fun _ _ h => h) fun k hk h => h.elim id fun h => by omega
    clear hs hdr
    generalize L[k] = x at *
    obtain ⟨r, hr⟩ : ∃ r, r = syncD d' x := ⟨_, rfl⟩
    rw [← hr] at hc hst1 hst2
    replace hr := Lib.hid hr
    obtain ⟨dn, n⟩ := r
    by_cases hn : n = 0
    · subst hn
      have hs2 := hst2 rfl
      clear hst1 hst2
      go_wp2_with fail
      refine hc.mono ?_
      rintro e w2 ⟨rfl, h2', m2⟩
      clear hc
      go_wp2_with fail
      exact ⟨⟨k + 1, dn, by omega, by go_num, hs2, hmono h2', hmm m2⟩, by simp [intOf] <;> omega⟩
    · have hs2 := hst1 hn
      have hb := n_ne0 hn
      clear hst1 hst2
      clear hR
      subst hs2
      go_wp2_with fail
      refine hc.mono ?_
      rintro e w2 ⟨rfl, h2', m2⟩
      clear hc
      go_wp2_with fail
      go_ret
      exact ⟨rfl, hmono h2', hmm m2⟩
set_option maxHeartbeats 4000000 in
theorem Sync_any {S T : Nat → Prop} {w : World} {d : Ds} {v y : Value} {L : Tx} (h : Dk S w v d) (hy : Ts w T y L) (hsep : ∀ k, T k → ¬ S k) :
    Calls Tryd.prog 28 #[v, y] w fun e w' => e = .returned (ev (eachD syncD d L).2) ∧ Dk (Grow S w) w' v (eachD syncD d L).1 ∧ Mod S w w' := by
  have hc := each_sync h hy hsep
  clear h hy
  generalize eachD syncD d L = R at *
  go_enter Tryd.func28, Tryd.ntmps28
  go_wp2_with fail
  refine hc.mono ?_
  rintro e w1 ⟨rfl, h1, m1⟩
  clear hc
  go_wp2_with fail
  go_ret
  exact ⟨rfl, h1, m1⟩
set_option maxHeartbeats 8000000 in
theorem each_remove {S T : Nat → Prop} {w : World} {d : Ds} {v y : Value} {L : Tx} (h : Dk S w v d) (hy : Ts w T y L) (hsep : ∀ k, T k → ¬ S k) :
    Calls Tryd.prog 50 #[v, y, .func (.func 51) #[v] #[]] w fun e w' => e = .returned (ev (eachD removeD d L).2) ∧ Dk (Grow S w) w' v (eachD removeD d L).1 ∧ Mod S w w' := by
  obtain ⟨A, c, rfl, h1, h2, h3, h4⟩ := hy.open_
  clear hy
  have hp : ∃ bd, v = pv bd := by obtain ⟨bd, _, _, _, e, _⟩ := h; exact ⟨bd, e⟩
  obtain ⟨bd, rfl⟩ := hp
  obtain ⟨R, hR⟩ : ∃ R, R = eachD removeD d L := ⟨_, rfl⟩
  rw [← hR]
  replace hR := Lib.hid hR
  go_enter Tryd.func50, Tryd.ntmps50
  go_wp2_with fail
  go_loopw [14] (fun i wr => ∃ (k : Nat) (d' : Ds), k ≤ L.length ∧ i = .int .i64 k ∧ Hid (eachD removeD d' (L.drop k) = R) ∧ Dk (Grow S w) wr (pv bd) d' ∧ Mod S w wr) (fun i _ => L.length - (intOf i).toNat)
  case atStart => exact ⟨0, d, Nat.zero_le _, rfl, Lib.hid hR.out.symm, h.grow w, Mod.refl _ _⟩
  case round =>
    clear h
    obtain ⟨k, d', hk, rfl, hs, hd, hm⟩ := hrel
    by_cases hlt : k < L.length
    case neg =>
      have hbl : decide ((k : Int) < (L.length : Int)) = false := dfalse (by omega)
      have he : R = (d', 0) := by
        have := hs.out
        rw [List.drop_of_length_le (by omega)] at this
        exact this.symm
      clear hs hR
      subst he
      go_wp2_with fail
      go_ret
      exact ⟨rfl, hd, hm⟩
    have hbl : decide ((k : Int) < (L.length : Int)) = true := dtrue (by omega)
    obtain ⟨ad, hA, hS, c0⟩ := (Cells.mod h4 hm (fun k _ hk => hsep k hk)).at_ hlt
    subst hA
    have hi0 : (0 : Int) ≤ (k : Int) := by omega
    have hi1 : (k : Int) < (L.length : Int) := by omega
    have hdr : L.drop k = L[k] :: L.drop (k + 1) := List.drop_eq_getElem_cons hlt
    have hc := remove_any hd L[k]
    have hsz := hm.size
    have hst1 : (removeD d' L[k]).2 ≠ 0 → R = removeD d' L[k] := fun h => by rw [← hs.out, hdr, eachD_err h]
    have hst2 : (removeD d' L[k]).2 = 0 → Hid (eachD removeD (removeD d' L[k]).1 (L.drop (k + 1)) = R) := fun h => Lib.hid (by rw [← hs.out, hdr, eachD_ok h])
    have hmono : ∀ {wx : World} {dx : Ds}, Dk (Grow (Grow S w) wr) wx (pv bd) dx → Dk (Grow S w) wx (pv bd) dx := fun h => h.mono fun k _ hk => hk.elim id fun hk => .inr (Nat.le_trans hsz hk)
    have hmm : ∀ {wx : World}, Mod (Grow S w) wr wx → Mod S w wx := fun h => hm.trans h (fun _ _ h => h) fun k hk h => h.elim id fun h => by omega
    clear hs hdr
    generalize L[k] = x at *
    obtain ⟨r, hr⟩ : ∃ r, r = removeD d' x := ⟨_, rfl⟩
    rw [← hr] at hc hst1 hst2
    replace hr := Lib.hid hr
    obtain ⟨dn, n⟩ := r
    by_cases hn : n = 0
    · subst hn
      have hs2 := hst2 rfl
      clear hst1 hst2
      go_wp2_with fail
      refine hc.mono ?_
      rintro e w2 ⟨rfl, h2', m2⟩
      clear hc
      go_wp2_with fail
      exact ⟨⟨k + 1, dn, by omega, by go_num, hs2, hmono h2', hmm m2⟩, by simp [intOf] <;> omega⟩
    · have hs2 := hst1 hn
      have hb := n_ne0 hn
      clear hst1 hst2
      clear hR
      subst hs2
      go_wp2_with fail
      refine hc.mono ?_
      rintro e w2 ⟨rfl, h2', m2⟩
      clear hc
      go_wp2_with fail
      go_ret
      exact ⟨rfl, hmono h2', hmm m2⟩
set_option maxHeartbeats 4000000 in
theorem Remove_any {S T : Nat → Prop} {w : World} {d : Ds} {v y : Value} {L : Tx} (h : Dk S w v d) (hy : Ts w T y L) (hsep : ∀ k, T k → ¬ S k) :
    Calls Tryd.prog 27 #[v, y] w fun e w' => e = .returned (ev (eachD removeD d L).2) ∧ Dk (Grow S w) w' v (eachD removeD d L).1 ∧ Mod S w w' := by
  have hc := each_remove h hy hsep
  clear h hy
  generalize eachD removeD d L = R at *
  go_enter Tryd.func27, Tryd.ntmps27
  go_wp2_with fail
  refine hc.mono ?_
  rintro e w1 ⟨rfl, h1, m1⟩
  clear hc
  go_wp2_with fail
  go_ret
  exact ⟨rfl, h1, m1⟩

theorem append_any {S T : Nat → Prop} {w : World} {d : Ds} {v y : Value} (h : Dk S w v d) (x : List UInt8) {P : Tx} (hy : Rw w T y P) (hsep : ∀ k, T k → ¬ S k) (hp : P.length ≤ 1000000) :
    Calls Tryd.prog 19 #[v, sv x, y] w fun e w' => e = .returned (ev (appendD d x P).2) ∧ Dk (Grow S w) w' v (appendD d x P).1 ∧ Mod S w w' := by
  obtain ⟨bd, bm, D, G, rfl, h⟩ := h
  have hd : Dk S w (pv bd) d := ⟨bd, bm, D, G, rfl, h⟩
  by_cases hb : begD d [x] = 0
  case neg =>
    have e : appendD d x P = (d, begD d [x]) := by unfold appendD; rw [if_pos hb]
    rw [e]
    exact (append_err h x y hb).mono fun e w' ⟨h1, h2⟩ => ⟨h1, (hd.ext h2).grow w, h2.mono fun _ _ h => h.elim⟩
  have e0 : appendD d x P = if ¬ sumB d.L + tot P ≤ d.room then (d, 6) else match getF d.L x with
    | none => if 4096 ≤ d.L.length then (d, 6) else (doneD { d with L := putF d.L ⟨x, P.flatten, 0⟩ }, 0)
    | some f => (doneD { d with L := putF d.L ⟨f.name, f.b ++ P.flatten, f.last⟩ }, 0) := by unfold appendD; rw [if_neg (by simpa using hb)] <;> rfl
  by_cases hft : sumB d.L + tot P ≤ d.room
  case neg =>
    rw [if_pos hft] at e0
    rw [e0]
    exact (append_full h x hy hp hb (.inl hft)).mono fun e w' ⟨h1, h2⟩ => ⟨h1, (hd.ext h2).grow w, h2.mono fun _ _ h => h.elim⟩
  rw [if_neg (fun h => h hft)] at e0
  cases hx : getF d.L x with
  | none =>
    rw [hx] at e0
    by_cases hfew : 4096 ≤ d.L.length
    · simp only [if_pos hfew] at e0
      rw [e0]
      exact (append_full h x hy hp hb (.inr ⟨hx, hfew⟩)).mono fun e w' ⟨h1, h2⟩ => ⟨h1, (hd.ext h2).grow w, h2.mono fun _ _ h => h.elim⟩
    · simp only [if_neg hfew] at e0
      rw [e0]
      exact append_new h hx hy hsep hp hb hft (by omega)
  | some f =>
    rw [hx] at e0
    obtain rfl := getF_name hx
    rw [e0]
    exact append_some h (getF_mem hx) hy hsep hp hb hft
end Go.Proofs.YtblfhonfjljndaaDoor
