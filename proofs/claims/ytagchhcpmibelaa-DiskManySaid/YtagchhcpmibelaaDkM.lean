/- disk: rows laid behind a new file. -/
import Derived.Test.YtagchhcpmibelaaDkL
namespace Go.Proofs.Ytagchhcpmibelaa
open Go.RowKit Go.Maps Go.WideMaps
set_option maxRecDepth 100000

set_option maxHeartbeats 16000000 in
theorem append_new {S T : Nat → Prop} {w : World} {bd bm : Nat} {D : DataW Unit} {G : Lay} {d : Ds} (h : DkAt S w bd bm D G d) {x : List UInt8} (hx : getF d.L x = none) {v : Value} {P : Tx} (hv : Rw w T v P) (hsep : ∀ k, T k → ¬ S k) (hp : P.length ≤ 1000000) (hb : begD d [x] = 0) (hft : sumB d.L + tot P ≤ d.room) (hfew : d.L.length < 4096) :
    Calls Try.prog 18 #[pv bd, sv x, v] w fun e w' => e = .returned (ev 0) ∧ Dk (Grow S w) w' (pv bd) (doneD { d with L := putF d.L ⟨x, P.flatten, 0⟩ }) ∧ Mod S w w' := by
  have x0 : Ext w (w.alloc (.cells #[sv x] 9)) := (Mod.refl _ w).alloc _
  have h0 := h.mod x0 (fun _ _ _ h => h)
  have hc := begin_any h0 (one_name w x) (by simp)
  have hl := (begD_len hb (List.mem_singleton.2 rfl))
  have hlf := begD_left hb
  rw [hb] at hc
  have hcf := fun (wx : World) (x1 : Ext w wx) => fits_any (h.mod x1 (fun _ _ _ h => h)) (hv.mod x1 (fun _ _ _ h => h)) hp
  rw [dtrue hft] at hcf
  have hhas := Lib.hid (show has D (.string x) = false by rw [h.of.has]; exact decide_eq_false (getF_none hx))
  have hM : ∀ wx, Ext w wx → wx.ownsMap Try.prog 9 ptrElem bm d.L.length D := fun wx x1 => (h.mod x1 (fun _ _ _ h => h)).map
  have hC : ∀ wx, Ext w wx → wx.cell? ⟨bd, 2, none⟩ = some (.map (some bm)) := fun wx x1 => (h.mod x1 (fun _ _ _ h => h)).blk.cell 2
  have hsz := h.of.size
  have hbl0 : decide ((4096 : Int) ≤ (d.L.length : Nat)) = false := dfalse (by omega)
  obtain ⟨A, c, vs, rfl, p1, p2, p3, p0, p5, p6⟩ := hv.open_
  have hxn := getF_none hx
  clear h0 hb hv
  go_enter Try.func18, Try.ntmps18
  go_wp2_with fail
  refine hc.mono ?_
  rintro e w1 ⟨rfl, x1⟩
  have y1 := ext_trans x0 x1
  have hM1 := hM w1 y1
  have hC1 := hC w1 y1
  have hcf1 := hcf w1 y1
  clear hc hcf x1
  go_wp2_with (at_lookup; refine wp_lookN hM1 (by omega) hhas.out rfl _ _ rfl rfl rfl ?_)
  refine hcf1.mono ?_
  rintro e w2 ⟨rfl, x2⟩
  have y2 := ext_trans y1 x2
  have hM2 := (hM w2 y2).len Try.underlying68 3
  rw [hsz] at hM2
  have hC2 := hC w2 y2
  clear hM hC hM1 hC1 hcf1
  have h2 := (h.mod y2 (fun _ _ _ h => h)).mono (T := Grow S w) fun _ _ h => .inl h
  have xa : Ext w2 (w2.alloc (.cells #[.slice none 0 0, .int .i64 0] 77)) := (Mod.refl _ w2).alloc _
  have ya := ext_trans y2 xa
  have hcp := put_any (h2.mod xa (fun _ _ _ h => h)) hxn hl (Blk.new w2 77 #[.slice none 0 0, .int .i64 0]) (fun f hf e => by have := (h2.fb f hf).lt; omega) hfew (.inr y2.size)
  have hS1 := h.sd
  have hbm := h.sm
  have hg1 : w.heap.size ≤ w2.heap.size := y2.size
  have hlast := (sumB_putF (f := ⟨x, [], 0⟩) h.rise).1
  rw [show (⟨x, [], 0⟩ : Fi).name = x from rfl, hx] at hlast
  simp only [lenB, List.length_nil, Nat.add_zero] at hlast
  have hput2 := fun b => putF_put (f := ⟨x, [], 0⟩) (g := ⟨x, b, 0⟩) h.rise rfl
  have hin : (⟨x, [], 0⟩ : Fi) ∈ putF d.L ⟨x, [], 0⟩ := (mem_putF h.rise _).2 (.inl rfl)
  have hroom := h.room
  have hmost := h.most
  clear h h2 hx
  generalize d.L.length = nL at *
  go_wp2_with fail
  refine hcp.mono ?_
  rintro e w3 ⟨rfl, h3, m23⟩
  have hne : ¬ w2.heap.size = bd := fun e => by
    have := h3.bd_ne hin
    rw [upd_same] at this
    exact this e
  have m0 : Mod S w w3 := (ya.mono (G := S) fun _ _ h => h.elim).then_ m23 fun k _ hk => hk ▸ hbm
  have hFS := Lib.hid (show ∀ k, k < w.heap.size → (k = bd ∨ k = w2.heap.size ∨ own (.slice none 0 0) k) → S k from fun k hk0 hk => hk.elim (fun e => e ▸ hS1) fun hk => hk.elim (fun e => by omega) fun hk => by simp [own, Value.ownBlock] at hk)
  have r0 : Wr w3 w3 bd bm w2.heap.size (.slice none 0 0) { d with L := putF d.L ⟨x, [], 0⟩ } ⟨x, [], 0⟩ [] (.slice none 0 0) := by
    have := Wr.start h3 hin
    rwa [show upd G x (w2.heap.size, Value.slice none 0 0) (⟨x, [], 0⟩ : Fi).name = (w2.heap.size, Value.slice none 0 0) from upd_same _ _ _] at this
  have hend : ∀ (b : List UInt8) (u : Value) (wx : World), Wr w3 wx bd bm w2.heap.size (.slice none 0 0) { d with L := putF d.L ⟨x, [], 0⟩ } ⟨x, [], 0⟩ b u → sumB d.L + b.length ≤ d.room →
      ∃ D' G', DkAt (Grow S w) wx bd bm D' G' { d with L := putF d.L ⟨x, b, 0⟩ } := fun b u wx r hr => by
    have := Wr.end_ h3 hin (b := b) (u := u) (w := wx) (by rw [show upd G x (w2.heap.size, Value.slice none 0 0) (⟨x, [], 0⟩ : Fi).name = (w2.heap.size, Value.slice none 0 0) from upd_same _ _ _]; exact r) (by show sumB (putF d.L ⟨x, [], 0⟩) + b.length ≤ d.room + 0; omega) (Nat.zero_le _)
    have t2 := this.mono (T := Grow S w) fun k _ hk => hk.elim id fun hk => .inr (Nat.le_trans m0.size hk)
    have e3 : ({ d with L := putF d.L ⟨x, b, 0⟩ } : Ds) = { d with L := putF (putF d.L ⟨x, [], 0⟩) ⟨x, b, 0⟩ } := by rw [hput2 b]
    rw [e3]
    exact ⟨_, _, t2⟩
  have hup : w.heap.size ≤ w3.heap.size := m0.size
  have hflt := flat_len P
  replace hend := Lib.hid hend
  replace hput2 := Lib.hid hput2
  have hlen : ([] : List UInt8).length ≤ sumB (putF d.L ⟨x, [], 0⟩) := Nat.zero_le _
  clear hcp h3 m23 hin hM2 hbl0 hhas hsz xa ya y1 x0
  generalize w2.heap.size = g at *
  go_wp2_with fail
  go_loopw [54] (fun i wr => ∃ (k : Nat) (b : List UInt8) (u : Value), k ≤ P.length ∧ i = .int .i64 k ∧ Hid (b = (P.take k).flatten) ∧ Wr w3 wr bd bm g (.slice none 0 0) { d with L := putF d.L ⟨x, [], 0⟩ } ⟨x, [], 0⟩ b u) (fun i _ => P.length - (intOf i).toNat)
  case atStart => exact ⟨0, [], .slice none 0 0, Nat.zero_le _, rfl, Lib.hid (by simp), r0⟩
  case round =>
    clear r0
    obtain ⟨k, b, u, hk, rfl, hb, r⟩ := hrel
    have htl := tot_le P k
    have hbt : b.length = tot (P.take k) := by rw [hb.out, flat_len]
    by_cases hlt : k < P.length
    case neg =>
      have hbl : decide ((k : Int) < (P.length : Int)) = false := dfalse (by omega)
      have hb' : b = P.flatten := by rw [hb.out, List.take_of_length_le (by omega)]
      subst hb'
      obtain ⟨D', G', h4⟩ := hend.out _ _ _ r (by rw [hflt]; omega)
      have hcd := done_any h4 hlf
      have m3 : Mod S w wr := m0.then_ r.md hFS.out
      clear hend h4 r hb hbt htl
      go_wp2_with fail
      refine hcd.mono ?_
      rintro e w4 ⟨rfl, h4, m4⟩
      clear hcd
      go_wp2_with fail
      go_ret
      exact ⟨rfl, ⟨bd, bm, D', G', rfl, h4⟩, m3.then_ m4 fun k _ hk => hk ▸ hS1⟩
    have hbl : decide ((k : Int) < (P.length : Int)) = true := dtrue (by omega)
    have m2 : Mod S w wr := m0.then_ r.md hFS.out
    obtain ⟨ad, y, hA, hc, hB⟩ := row_now p0 p5 p6 m2 (fun k _ hk => hsep k hk) hlt
    have hB' := hB.mod m2 (fun k _ hk => hsep k hk)
    subst hA
    have hi0 : (0 : Int) ≤ (k : Int) := by omega
    have hi1 : (k : Int) < (P.length : Int) := by omega
    have hst := Lib.hid (show b ++ P[k] = (P.take (k + 1)).flatten by rw [flat_snoc2 P k hlt, hb.out])
    have htl2 := tot_le P (k + 1)
    have hsn := tot_snoc P k hlt
    have hfit : b.length + P[k].length ≤ 1073741824 := by simp only [tot] at *; omega
    clear hb hend m2 hB hsn htl2 htl
    generalize P[k] = row at *
    obtain ⟨B, cc, rfl, j1, j2, j3, j4⟩ := hB'.open_
    have hB := hB'
    have g0 : wr.cell? ⟨g, 0, none⟩ = some u := r.fi.cell 0
    have hgb : ((b.map bv).length + (row.map bv).length) * 1 ≤ 140737488355328 := by rw [List.length_map, List.length_map]; omega
    have ro := r.ow
    have hstep := fun (w6 : World) (v6 : Value) => r.step (w6 := w6) (v6 := v6) (row := row) hne hlen
    have hub : sumB (putF d.L ⟨x, [], 0⟩) - ([] : List UInt8).length + b.length ≤ 3000000000 := by rw [List.length_nil]; omega
    replace hstep := Lib.hid hstep
    clear hB' j4 p5 p6 hbt
    go_wp2_with ((with_reducible show wpList _ _ _ (⟨some 64, _, _, _, _, _⟩ :: _) _ _); refine wp_app tyB ro (hB) (bv_one row) rfl (.tmp 62) (.tmp 63) rfl rfl rfl hgb ?_; intro v6 w6 o6 m6 n6; have hs6 := hstep.out w6 v6 o6 m6 n6; clear hstep ro r; obtain ⟨A6, c6, rfl⟩ := o6.shape; obtain ⟨q0, q1, q2, q3, q4⟩ := hs6; replace q4 := Lib.hid q4; rw [List.length_append, List.length_map, List.length_map] at *)
    exact ⟨⟨k + 1, _, _, by omega, by go_num, hst, q4.out _ (by simp only [List.length_nil] at *; omega)⟩, by simp [intOf] <;> omega⟩
end Go.Proofs.Ytagchhcpmibelaa
