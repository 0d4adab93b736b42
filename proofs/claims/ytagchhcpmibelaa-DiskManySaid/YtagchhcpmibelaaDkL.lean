/- disk: rows laid behind a file: done. -/
import Derived.Test.YtagchhcpmibelaaDkK
namespace Go.Proofs.Ytagchhcpmibelaa
open Go.RowKit Go.Maps Go.WideMaps
set_option maxRecDepth 100000

section
variable {S T F : Nat → Prop} {w w' w1 : World} {bd bm : Nat} {D : DataW Unit} {G : Lay} {d : Ds} {v : Value}
theorem flat_snoc2 (P : Tx) (k : Nat) (h : k < P.length) : (P.take (k + 1)).flatten = (P.take k).flatten ++ P[k] := by
  rw [List.take_succ_eq_append_getElem h, List.flatten_append]
  simp
/-- The file f is being written: its bytes are b. -/
structure Wr (w1 w : World) (bd bm g : Nat) (fv : Value) (d : Ds) (f : Fi) (b : List UInt8) (u : Value) : Prop where
  ow : Own w 5 u (b.map bv)
  nx : Next w1.heap.size fv u
  fi : Blk w g 77 (fcells u f.last)
  bk : Blk w bd 70 #[.int .i64 (d.room : Int), .int .i64 (sumB d.L - f.b.length + b.length : Nat), .map (some bm), .bool d.fu, .int .i64 (d.left : Int)]
  md : Mod (fun k => k = bd ∨ k = g ∨ own fv k) w1 w
theorem len_le_sum {L : Fis} (h : Rise L) {f : Fi} (hf : f ∈ L) : f.b.length ≤ sumB L := by
  have := sumB_delF (x := f.name) h
  rw [getF_of_mem h hf] at this
  simp only [lenB] at this
  omega
theorem Wr.start (h : DkAt S w1 bd bm D G d) {f : Fi} (hf : f ∈ d.L) : Wr w1 w1 bd bm (G f.name).1 (G f.name).2 d f f.b (G f.name).2 := by
  have hlen := len_le_sum h.rise hf
  refine ⟨h.fo f hf, .inl rfl, h.fb f hf, ?_, Mod.refl _ _⟩
  have := h.blk
  rw [dcells] at this
  rw [show sumB d.L - f.b.length + f.b.length = sumB d.L by omega]
  exact this
theorem Wr.end_ (h : DkAt S w1 bd bm D G d) {f : Fi} (hf : f ∈ d.L) {b : List UInt8} {u : Value} (r : Wr w1 w bd bm (G f.name).1 (G f.name).2 d f b u) (hroom : sumB d.L + b.length ≤ d.room + f.b.length) (hbl : f.b.length ≤ b.length) :
    DkAt (fun k => S k ∨ w1.heap.size ≤ k) w bd bm D (upd G f.name ((G f.name).1, u)) { d with L := putF d.L ⟨f.name, b, f.last⟩ } := by
  have hsum := (sumB_putF (f := ⟨f.name, b, f.last⟩) h.rise).1
  rw [show (⟨f.name, b, f.last⟩ : Fi).name = f.name from rfl, getF_of_mem h.rise hf] at hsum
  simp only [lenB] at hsum
  have hlen := len_le_sum h.rise hf
  refine h.file hf r.md (fun _ _ h => h) r.nx ?_ r.fi r.ow (Nat.le_trans (h.fl f hf).1 hbl) hroom h.lf
  have := r.bk
  rw [show sumB d.L - f.b.length + b.length = sumB (putF d.L ⟨f.name, b, f.last⟩) by omega] at this
  exact this
theorem Wr.step {g : Nat} {fv u v6 : Value} {f : Fi} {b row : List UInt8} {w6 : World} (r : Wr w1 w bd bm g fv d f b u) (hne : ¬ g = bd) (hlen : f.b.length ≤ sumB d.L) (o6 : Own w6 5 v6 (b.map bv ++ row.map bv)) (m6 : Mod (own u) w w6) (n6 : Next w.heap.size u v6) :
    w6.cell? ⟨g, 0, none⟩ = some u ∧ w6.frozen? ⟨g, 0, none⟩ = false ∧ w6.cell? ⟨bd, 1, none⟩ = some (.int .i64 (sumB d.L - f.b.length + b.length : Nat)) ∧ w6.frozen? ⟨bd, 1, none⟩ = false ∧
    ∀ x : Int, x = (sumB d.L - f.b.length + b.length : Nat) + (row.length : Int) → Wr w1 ((w6.setCell ⟨g, 0, none⟩ v6).setCell ⟨bd, 1, none⟩ (.int .i64 x)) bd bm g fv d f (b ++ row) v6 := by
  have n1 : ∀ k, own u k → k ≠ g ∧ k ≠ bd := fun k hk => by
    obtain ⟨cur, hc⟩ := r.ow.ty hk
    exact ⟨by rintro rfl; exact absurd (hc.ty_eq r.fi) (by decide), by rintro rfl; exact absurd (hc.ty_eq r.bk) (by decide)⟩
  have f6 := r.fi.mod m6 fun h => (n1 _ h).1 rfl
  have b6 := r.bk.mod m6 fun h => (n1 _ h).2 rfl
  have n2 : ∀ k, own v6 k → k ≠ g ∧ k ≠ bd := fun k hk => by
    obtain ⟨cur, hc⟩ := o6.ty hk
    exact ⟨by rintro rfl; exact absurd (hc.ty_eq f6) (by decide), by rintro rfl; exact absurd (hc.ty_eq b6) (by decide)⟩
  refine ⟨f6.cell 0, f6.frozen 0, b6.cell 1, b6.frozen 1, fun x hx => ?_⟩
  have hx' : x = (sumB d.L - f.b.length + (b ++ row).length : Nat) := by rw [List.length_append]; omega
  subst hx'
  have ms : Mod (fun k => k = bd ∨ k = g) w6 ((w6.setCell ⟨g, 0, none⟩ v6).setCell ⟨bd, 1, none⟩ (.int .i64 (sumB d.L - f.b.length + (b ++ row).length : Nat))) :=
    ((Mod.refl _ w6).setCell (p := ⟨g, 0, none⟩) (fun _ => .inr rfl) _).setCell (p := ⟨bd, 1, none⟩) (fun _ => .inl rfl) _
  refine ⟨?_, r.nx.trans n6 r.md.size, (f6.set_ 0 v6).far (p := ⟨bd, 1, none⟩) hne _, (b6.far (p := ⟨g, 0, none⟩) (fun e => hne e.symm) _).set_ 1 _, (r.md.then_ m6 fun k hk h => .inr (.inr (r.nx.sub hk h))).then_ ms fun k _ h => h.elim .inl fun e => .inr (.inl e)⟩
  rw [List.map_append]
  exact o6.mod ms fun k hk => fun h => h.elim (n2 k hk).2 (n2 k hk).1
end
set_option maxHeartbeats 16000000 in
theorem append_some {S T : Nat → Prop} {w : World} {bd bm : Nat} {D : DataW Unit} {G : Lay} {d : Ds} (h : DkAt S w bd bm D G d) {f : Fi} (hf : f ∈ d.L) {v : Value} {P : Tx} (hv : Rw w T v P) (hsep : ∀ k, T k → ¬ S k) (hp : P.length ≤ 1000000) (hb : begD d [f.name] = 0) (hft : sumB d.L + tot P ≤ d.room) :
    Calls Try.prog 18 #[pv bd, sv f.name, v] w fun e w' => e = .returned (ev 0) ∧ Dk (Grow S w) w' (pv bd) (doneD { d with L := putF d.L ⟨f.name, f.b ++ P.flatten, f.last⟩ }) ∧ Mod S w w' := by
  have x0 : Ext w (w.alloc (.cells #[sv f.name] 9)) := (Mod.refl _ w).alloc _
  have h0 := h.mod x0 (fun _ _ _ h => h)
  have hc := begin_any h0 (one_name w f.name) (by simp)
  have hl := (begD_len hb (List.mem_singleton.2 rfl)).2
  have hlf := begD_left hb
  rw [hb] at hc
  have hcf := fun (wx : World) (x1 : Ext w wx) => fits_any (h.mod x1 (fun _ _ _ h => h)) (hv.mod x1 (fun _ _ _ h => h)) hp
  rw [dtrue hft] at hcf
  have hin : f.name ∈ nms d.L := List.mem_map.2 ⟨f, hf, rfl⟩
  have hhas := Lib.hid (show has D (.string f.name) = true by rw [h.of.has]; exact decide_eq_true hin)
  have hat := Lib.hid (h.of.key _ hin)
  have hM : ∀ wx, Ext w wx → wx.ownsMap Try.prog 9 ptrElem bm d.L.length D := fun wx x1 => (h.mod x1 (fun _ _ _ h => h)).map
  have hC : ∀ wx, Ext w wx → wx.cell? ⟨bd, 2, none⟩ = some (.map (some bm)) := fun wx x1 => (h.mod x1 (fun _ _ _ h => h)).blk.cell 2
  obtain ⟨A, c, vs, rfl, p1, p2, p3, p0, p5, p6⟩ := hv.open_
  clear h0 hb hin hv
  go_enter Try.func18, Try.ntmps18
  go_wp2_with fail
  refine hc.mono ?_
  rintro e w1 ⟨rfl, x1⟩
  have y1 := ext_trans x0 x1
  have hM1 := hM w1 y1
  have hC1 := hC w1 y1
  have hcf1 := hcf w1 y1
  clear hc hcf hM hC x1
  go_wp2_with (at_lookup; refine wp_lookS hM1 (by omega) hhas.out hat.out rfl _ _ rfl rfl rfl ?_)
  refine hcf1.mono ?_
  rintro e w2 ⟨rfl, x2⟩
  have y2 := ext_trans y1 x2
  have h2 := h.mod y2 (fun _ _ _ h => h)
  have r0 := Wr.start h2 hf
  have hS1 := h.sd
  have hFS := Lib.hid (show ∀ k, k < w.heap.size → (k = bd ∨ k = (G f.name).1 ∨ own (G f.name).2 k) → S k from fun k _ hk => hk.elim (fun e => e ▸ h.sd) fun hk => hk.elim (fun e => e ▸ (h.fs f hf).1) ((h.fs f hf).2 k))
  have m0 : Mod S w w2 := y2.mono (G := S) fun _ _ h => h.elim
  have hne : ¬ (G f.name).1 = bd := h.bd_ne hf
  have hne2 : ¬ bd = (G f.name).1 := fun e => hne e.symm
  have hend := fun (b : List UInt8) (u : Value) (wx : World) (r : Wr w2 wx bd bm (G f.name).1 (G f.name).2 d f b u) => r.end_ h2 hf
  have hown := fun k (hk : own (G f.name).2 k) => h.own_ne hf hk
  have hlen := len_le_sum h.rise hf
  have hmost := h.most
  have hup : w.heap.size ≤ w2.heap.size := y2.size
  have hflt := flat_len P
  have hown2 : ∀ k, own (G f.name).2 k → k < w2.heap.size := fun k hk => (h2.fo f hf).lt hk
  replace hend := Lib.hid hend
  replace hown := Lib.hid hown
  replace hown2 := Lib.hid hown2
  clear h h2 hcf1 hM1 hC1 hhas hat y1 x0
  generalize (G f.name).1 = g at *
  generalize (G f.name).2 = fv at *
  go_wp2_with fail
  go_loopw [54] (fun i wr => ∃ (k : Nat) (b : List UInt8) (u : Value), k ≤ P.length ∧ i = .int .i64 k ∧ Hid (b = f.b ++ (P.take k).flatten) ∧ Wr w2 wr bd bm g fv d f b u) (fun i _ => P.length - (intOf i).toNat)
  case atStart => exact ⟨0, f.b, fv, Nat.zero_le _, rfl, Lib.hid (by simp), r0⟩
  case round =>
    clear r0
    obtain ⟨k, b, u, hk, rfl, hb, r⟩ := hrel
    have htl := tot_le P k
    have hbt : b.length = f.b.length + tot (P.take k) := by rw [hb.out, List.length_append, flat_len]
    by_cases hlt : k < P.length
    case neg =>
      have hbl : decide ((k : Int) < (P.length : Int)) = false := dfalse (by omega)
      have hb' : b = f.b ++ P.flatten := by rw [hb.out, List.take_of_length_le (by omega)]
      subst hb'
      have h3 := hend.out _ _ _ r (by rw [List.length_append, hflt]; omega) (by rw [List.length_append]; omega)
      have hcd := done_any h3 hlf
      have m3 : Mod S w wr := m0.then_ r.md hFS.out
      clear hend h3 r hb hbt htl
      go_wp2_with fail
      refine hcd.mono ?_
      rintro e w3 ⟨rfl, h3, m4⟩
      clear hcd
      go_wp2_with fail
      go_ret
      refine ⟨rfl, ⟨bd, bm, D, _, rfl, h3.mono fun k _ hk => ?_⟩, m3.then_ m4 fun k _ hk => hk ▸ hS1⟩
      rcases hk with hk | hk
      · exact .inl hk
      · exact .inr (Nat.le_trans hup hk)
    have hbl : decide ((k : Int) < (P.length : Int)) = true := dtrue (by omega)
    have m2 : Mod S w wr := m0.then_ r.md hFS.out
    obtain ⟨ad, y, hA, hc, hB⟩ := row_now p0 p5 p6 m2 (fun k _ hk => hsep k hk) hlt
    have hB' := hB.mod m2 (fun k _ hk => hsep k hk)
    subst hA
    have hi0 : (0 : Int) ≤ (k : Int) := by omega
    have hi1 : (k : Int) < (P.length : Int) := by omega
    have hst := Lib.hid (show b ++ P[k] = f.b ++ (P.take (k + 1)).flatten by rw [flat_snoc2 P k hlt, hb.out, List.append_assoc])
    have htl2 := tot_le P (k + 1)
    have hsn := tot_snoc P k hlt
    have hfit : b.length + P[k].length ≤ 1073741824 := by simp only [tot] at *; omega
    clear hb hend m2 hB hsn htl2 htl
    generalize P[k] = row at *
    obtain ⟨B, cc, rfl, j1, j2, j3, j4⟩ := hB'.open_
    have hB := hB'
    have g0 : wr.cell? ⟨g, 0, none⟩ = some u := r.fi.cell 0
    have hgb : ((b.map bv).length + (row.map bv).length) * 1 ≤ 140737488355328 := by rw [List.length_map, List.length_map]; omega
    have ro := r.ow
    have hstep := fun (w6 : World) (v6 : Value) => r.step (w6 := w6) (v6 := v6) (row := row) hne hlen
    have hw : ∀ m : Nat, m ≤ 3000000000 → IntKind.i64.wrap ((m : Int) + (row.length : Int)) = (m : Int) + (row.length : Int) := fun m hm => by rw [IntKind.wrap_i64]; omega
    have hub : sumB d.L - f.b.length + b.length ≤ 3000000000 := by omega
    replace hstep := Lib.hid hstep
    clear hB' j4 p5 p6 hw hbt
    go_wp2_with ((with_reducible show wpList _ _ _ (⟨some 64, _, _, _, _, _⟩ :: _) _ _); refine wp_app tyB ro (hB) (bv_one row) rfl (.tmp 62) (.tmp 63) rfl rfl rfl hgb ?_; intro v6 w6 o6 m6 n6; have hs6 := hstep.out w6 v6 o6 m6 n6; clear hstep ro r; obtain ⟨A6, c6, rfl⟩ := o6.shape; obtain ⟨q0, q1, q2, q3, q4⟩ := hs6; replace q4 := Lib.hid q4; rw [List.length_append, List.length_map, List.length_map] at *)
    exact ⟨⟨k + 1, _, _, by omega, by go_num, hst, q4.out _ (by omega)⟩, by simp [intOf] <;> omega⟩
end Go.Proofs.Ytagchhcpmibelaa
