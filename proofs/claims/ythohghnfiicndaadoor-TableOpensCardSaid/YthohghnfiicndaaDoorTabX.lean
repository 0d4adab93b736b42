/- table: what is told is new memory. -/
import Derived.Test.YthohghnfiicndaaDoorTabT
import Derived.Deep.CutBlock
namespace Go.Proofs.YthohghnfiicndaaDoor
open Go.RowKit Go.Maps Go.WideMaps
set_option maxRecDepth 100000

theorem scanC_all (L : List Ce) : scanC L [] [] = L := by
  unfold scanC
  rw [List.filter_eq_self]
  intro c _
  have h : ∀ k : List UInt8, Op.bytesLess k [] = false := fun k => by cases k <;> rfl
  rw [h]; rfl

theorem spoil4 {wr : World} {g6 : Nat} {t : TypeId} {cs : Array Value} (B : Blk wr g6 t cs) {ad : Addr} (had : ad = ⟨g6, 0, none⟩) (k : Nat) (a b c d : Value) :
    ∃ cs' : Array Value, cs'.size = cs.size ∧ Blk ((((wr.setCell (ad.add (k * 4)) a).setCell ⟨(ad.add (k * 4)).block, (ad.add (k * 4)).off + 1, none⟩ b).setCell ⟨(ad.add (k * 4)).block, (ad.add (k * 4)).off + 2, none⟩ c).setCell ⟨(ad.add (k * 4)).block, (ad.add (k * 4)).off + 3, none⟩ d) g6 t cs' ∧
      Mod (fun j => j = g6) wr ((((wr.setCell (ad.add (k * 4)) a).setCell ⟨(ad.add (k * 4)).block, (ad.add (k * 4)).off + 1, none⟩ b).setCell ⟨(ad.add (k * 4)).block, (ad.add (k * 4)).off + 2, none⟩ c).setCell ⟨(ad.add (k * 4)).block, (ad.add (k * 4)).off + 3, none⟩ d) := by
  rw [had, add_lit]
  refine ⟨_, ?_, (((B.set_ (k * 4) a).set_ (k * 4 + 1) b).set_ (k * 4 + 2) c).set_ (k * 4 + 3) d, ?_⟩
  · simp
  · exact ((((Mod.refl (fun j => j = g6) wr).setCell (p := ⟨g6, k * 4, none⟩) (fun _ => rfl) a).setCell (p := ⟨g6, k * 4 + 1, none⟩) (fun _ => rfl) b).setCell (p := ⟨g6, k * 4 + 2, none⟩) (fun _ => rfl) c).setCell (p := ⟨g6, k * 4 + 3, none⟩) (fun _ => rfl) d
theorem cells4_ {wr : World} {g6 : Nat} {t : TypeId} {cs : Array Value} (B : Blk wr g6 t cs) {ad : Addr} (had : ad = ⟨g6, 0, none⟩) {k n : Nat} (hk : k < n) (hn : n * 4 ≤ cs.size) :
    ∃ a b c d, wr.cell? (ad.add (k * 4)) = some a ∧ wr.cell? ⟨(ad.add (k * 4)).block, (ad.add (k * 4)).off + 1, none⟩ = some b ∧ wr.cell? ⟨(ad.add (k * 4)).block, (ad.add (k * 4)).off + 2, none⟩ = some c ∧ wr.cell? ⟨(ad.add (k * 4)).block, (ad.add (k * 4)).off + 3, none⟩ = some d ∧
      wr.frozen? (ad.add (k * 4)) = false ∧ wr.frozen? ⟨(ad.add (k * 4)).block, (ad.add (k * 4)).off + 1, none⟩ = false ∧ wr.frozen? ⟨(ad.add (k * 4)).block, (ad.add (k * 4)).off + 2, none⟩ = false ∧ wr.frozen? ⟨(ad.add (k * 4)).block, (ad.add (k * 4)).off + 3, none⟩ = false := by
  rw [had, add_lit]
  have h : ∀ j, j < 4 → ∃ u, wr.cell? ⟨g6, k * 4 + j, none⟩ = some u := fun j hj => ⟨cs[k * 4 + j]'(by omega), by rw [B.cell, Array.getElem?_eq_getElem (by omega)]⟩
  obtain ⟨a, ha⟩ := h 0 (by omega)
  obtain ⟨b, hb⟩ := h 1 (by omega)
  obtain ⟨c, hc⟩ := h 2 (by omega)
  obtain ⟨d, hd⟩ := h 3 (by omega)
  exact ⟨a, b, c, d, ha, hb, hc, hd, B.frozen _, B.frozen _, B.frozen _, B.frozen _⟩

set_option maxHeartbeats 16000000 in
theorem own8_any {w : World} {S : Nat → Prop} {v : Value} {L : List Ce} (h : Cs w S v L) (hf : LFits L) (hN : Nib w) :
    Calls Tryd.prog 9 #[v] w fun e w' => e = .returned (.bool true) ∧ Ext w w' := by
  have hc1 := heavy8_any h hf
  have hcs := fun {wx : World} (x : Ext w wx) => Rc.ext h x
  obtain ⟨A, cp, rfl, -, -, -, -⟩ := h.open_ cel_len
  go_enter Tryd.func9, Tryd.ntmps9
  go_wp2_with fail
  refine hc1.mono ?_
  rintro e w1 ⟨q, rfl, hq, x1⟩
  clear hc1 h
  cases q with
  | true =>
    go_wp2_with fail
    go_ret
    exact ⟨rfl, x1⟩
  | false =>
  obtain ⟨hw, hl⟩ := hq rfl
  have hc2 := rise_any (hcs x1) (by omega)
  clear hq
  go_wp2_with fail
  refine hc2.mono ?_
  rintro e w2 ⟨rfl, x2⟩
  have y2 := ext_trans x1 x2
  clear hc2 x1 x2
  by_cases hr : riseN L = 0
  case neg =>
    have hb : ((riseN L : Int) != 0) = true := by rw [bne_iff_ne]; omega
    generalize riseN L = n at *
    go_wp2_with fail
    go_ret
    exact ⟨rfl, y2⟩
  have hb : ((riseN L : Int) != 0) = false := by rw [bne_eq_false_iff_eq]; omega
  by_cases h0 : L = []
  · have hb0 : ((L.length : Int) == 0) = true := by rw [h0]; rfl
    generalize riseN L = n at *
    go_wp2_with fail
    go_ret
    exact ⟨rfl, y2⟩
  have hpos : 0 < L.length := List.length_pos_iff.2 h0
  have hb0 : ((L.length : Int) == 0) = false := by rw [beq_eq_false_iff_ne]; omega
  have hsc := fun {S : Nat → Prop} {wx : World} {u : Value} (h : TL S wx u L) => scan_any (a := []) (b := []) h (build_of hr h0 (by omega))
  rw [scanC_all] at hsc
  have hla := fun {S : Nat → Prop} {wx : World} {u : Value} (h : TL S wx u L) => last_any h (build_of hr h0 (by omega))
  have hB := build_of hr h0 (by omega)
  have hbl0 := build_len hB (by omega) hl
  have hbp : 12 ≤ (buildB L).length := by
    have e : buildB L = frec (bodyB L) := if_pos hB
    rw [e, frec_len]; omega
  have hc3 := build_any (hcs y2) (by omega) (hN.mod y2 (fun h => h))
  rw [hB] at hc3
  have hop := fun {S : Nat → Prop} {wx : World} {v : Value} (h : Bs wx S v (buildB L)) (n : Nib wx) => opened_any h n hB (by omega) hl
  generalize riseN L = n at *
  generalize buildB L = fr at *
  go_wp2_with fail
  refine hc3.mono ?_
  rintro e w3 ⟨v3, rfl, o3, f3, x3⟩
  have y3 := ext_trans y2 x3
  have hc4 := hop o3.sl (hN.mod y3 (fun h => h))
  clear hc3 hop
  go_wp2_with fail
  refine hc4.mono ?_
  rintro e w4 ⟨g, rfl, T, x4⟩
  have y4 := ext_trans y3 x4
  clear hc4
  have hw23 := y2.size
  have hT : TL (fun k => w3.heap.size ≤ k ∧ k < w4.heap.size) w4 (.pointer (some ⟨g, 0, none⟩)) L := T.mono fun k hk hs => ⟨hs, hk⟩
  have hz34 := x4.size
  have o4 := o3.mod x4 (fun _ _ h => h)
  have hof : ∀ k, own v3 k → w2.heap.size ≤ k ∧ k < w3.heap.size := fun k hk => ⟨f3 k hk, o3.lt hk⟩
  obtain ⟨A3, c3, rfl⟩ := o4.shape
  rw [List.length_map] at o4 hof ⊢
  obtain ⟨gb, rfl⟩ : ∃ gb, A3 = some ⟨gb, 0, none⟩ := by
    rcases o4.form with ⟨h, hnil⟩ | ⟨g, cap, h, _⟩
    · have h9 := List.map_eq_nil_iff.1 hnil
      rw [h9] at hbp
      simp at hbp
    · injection h with h; exact ⟨g, h⟩
  obtain ⟨lr, hlr⟩ : ∃ lr, lr = fr.length := ⟨_, rfl⟩
  rw [← hlr] at o4 hof hbl0 ⊢
  replace hlr := Lib.hid hlr
  clear o3 f3 x3 x4 T y3
  go_upto_region 7 with fail
  go_wp2_with fail
  go_loopw [7] (fun i wr => ∃ (k : Nat) (xs : List UInt8), k ≤ lr ∧ i = .int .i64 k ∧ xs.length = lr ∧ Own wr 5 (.slice (some ⟨gb, 0, none⟩) lr c3) (xs.map bv) ∧ Mod (own (.slice (some ⟨gb, 0, none⟩) lr c3)) w4 wr) (fun i _ => lr - (intOf i).toNat)
  case atStart => exact ⟨0, fr, Nat.zero_le _, rfl, hlr.out.symm, o4, Mod.refl _ _⟩
  case round =>
    clear o4
    obtain ⟨k, xs, hk, rfl, hxl, o5, m5⟩ := hrel
    by_cases hlt : k < lr
    · have hbl : decide ((k : Int) < (lr : Int)) = true := dtrue (by omega)
      have hkx : k < xs.length := by omega
      have hc9 : wr.cell? ⟨gb, k, none⟩ = some (.int .u8 (xs[k].toNat : Int)) := by
        have := o5.cellAt (j := k) (by simpa using hkx)
        simpa using this
      have hz9 := o5.frozenAt k
      have o6 := o5.store (j := k) (bv 0)
      rw [show (xs.map bv).set k (bv 0) = (xs.set k 0).map bv from (List.map_set ..).symm] at o6
      have m6 : Mod (own (.slice (some ⟨gb, 0, none⟩) lr c3)) w4 (wr.setCell ⟨gb, k, none⟩ (bv 0)) := Mod.setCell m5 (p := ⟨gb, k, none⟩) (fun _ => rfl) _
      have hi0 : (0 : Int) ≤ (k : Int) := by omega
      have hi1 : (k : Int) < (lr : Int) := by omega
      go_wp2_with fail
      exact ⟨⟨k + 1, _, by omega, by go_num, by rw [List.length_set]; exact hxl, o6, m6⟩, by simp [intOf] <;> omega⟩
    have hbl : decide ((k : Int) < (lr : Int)) = false := dfalse (by omega)
    have hT5 := hT.mod m5 (fun j _ hj hF => by have := (hof j hF).2; omega)
    have y5 : Ext w wr := y4.trans m5 (fun _ _ h => h) (fun j hj hF => by have := (hof j hF).1; omega)
    have hz5 := m5.size
    have hz55 := y5.size
    have hc5 := hsc hT5
    clear o5 m5 hxl hk hT y4
    go_wp2_with fail
    refine hc5.mono ?_
    rintro e w6 ⟨v6, rfl, o6, f6, x6⟩
    have y6 := ext_trans y5 x6
    have hT6 := hT5.ext x6
    have hT7 : TL (fun j => (w3.heap.size ≤ j ∧ j < w4.heap.size)) w6 (.pointer (some ⟨g, 0, none⟩)) L := hT6
    obtain ⟨A6, c6, rfl⟩ : ∃ A c, v6 = Value.slice A L.length c := by
      obtain ⟨A, c, h⟩ := OwnR.shape o6
      exact ⟨A, c, h⟩
    obtain ⟨g6, rfl⟩ : ∃ g, A6 = some ⟨g, 0, none⟩ := by
      rcases OwnK.form o6 with ⟨h, h2⟩ | ⟨g, cap, h, _⟩
      · injection h with h1 h2 h3; omega
      · injection h with h; exact ⟨g, h⟩
    have hg6 : wr.heap.size ≤ g6 := f6 g6 rfl
    obtain ⟨cur, hcur, hcs6⟩ : ∃ cur : Array Value, Blk w6 g6 37 cur ∧ L.length * 4 ≤ cur.size := by
      rcases o6.2 with ⟨h, h2⟩ | ⟨g, cap, cur, h, _, hh, r1, r2, r3, _⟩
      · cases h
      · injection h with h1 h2 h3
        injection h1 with h1
        injection h1 with h1
        subst h1
        exact ⟨cur, hh, by rw [r3]; omega⟩
    obtain ⟨ad, had⟩ : ∃ ad : Addr, ad = ⟨g6, 0, none⟩ := ⟨_, rfl⟩
    rw [← had]
    replace had := Lib.hid had
    have hy6 : ∀ {wx : World}, Mod (fun j => j = g6) w6 wx → Ext w wx := fun m => y6.trans m (fun _ _ h => h) (fun j hj e => by omega)
    have hTx : ∀ {wx : World}, Mod (fun j => j = g6) w6 wx → TL (fun j => w3.heap.size ≤ j ∧ j < w4.heap.size) wx (.pointer (some ⟨g, 0, none⟩)) L := fun m => hT7.mod m (fun j _ hj e => by omega)
    clear hc5 hT5 hT6 o6 f6 y5 hT7
    go_wp2_with fail
    go_loopw [9] (fun i wr => ∃ (k : Nat) (cs : Array Value), k ≤ L.length ∧ i = .int .i64 k ∧ L.length * 4 ≤ cs.size ∧ Blk wr g6 37 cs ∧ Mod (fun j => j = g6) w6 wr) (fun i _ => L.length - (intOf i).toNat)
    case atStart => exact ⟨0, cur, Nat.zero_le _, rfl, hcs6, hcur, Mod.refl _ _⟩
    case round =>
      clear hcur
      obtain ⟨k2, cs, hk2, rfl, hcz, B7, m7⟩ := hrel
      by_cases hlt2 : k2 < L.length
      · have hbl2 : decide ((k2 : Int) < (L.length : Int)) = true := dtrue (by omega)
        have hi0 : (0 : Int) ≤ (k2 : Int) := by omega
        have hi1 : (k2 : Int) < (L.length : Int) := by omega
        obtain ⟨a, _, _, _, c0, _, _, _, f0, _, _, _⟩ := cells4_ B7 had.out hlt2 hcz
        have B71 : Blk (wr.setCell (ad.add (k2 * 4)) (.string ⟨#[115, 112, 111, 105, 108, 116]⟩)) g6 37 (cs.setIfInBounds (k2 * 4) (.string ⟨#[115, 112, 111, 105, 108, 116]⟩)) := by rw [had.out, add_lit]; exact B7.set_ _ _
        obtain ⟨_, b, _, _, _, c1, _, _, _, f1, _, _⟩ := cells4_ B71 had.out hlt2 (by simpa using hcz)
        have B72 : Blk ((wr.setCell (ad.add (k2 * 4)) (.string ⟨#[115, 112, 111, 105, 108, 116]⟩)).setCell ⟨(ad.add (k2 * 4)).block, (ad.add (k2 * 4)).off + 1, none⟩ (.string ⟨#[]⟩)) g6 37 ((cs.setIfInBounds (k2 * 4) (.string ⟨#[115, 112, 111, 105, 108, 116]⟩)).setIfInBounds (k2 * 4 + 1) (.string ⟨#[]⟩)) := by
          have e : ad.add (k2 * 4) = ⟨g6, k2 * 4, none⟩ := by rw [had.out, add_lit]
          rw [e] at B71 ⊢
          exact B71.set_ _ _
        obtain ⟨_, _, c, _, _, _, c2, _, _, _, f2, _⟩ := cells4_ B72 had.out hlt2 (by simpa using hcz)
        have B73 : Blk (((wr.setCell (ad.add (k2 * 4)) (.string ⟨#[115, 112, 111, 105, 108, 116]⟩)).setCell ⟨(ad.add (k2 * 4)).block, (ad.add (k2 * 4)).off + 1, none⟩ (.string ⟨#[]⟩)).setCell ⟨(ad.add (k2 * 4)).block, (ad.add (k2 * 4)).off + 2, none⟩ (.bool false)) g6 37 (((cs.setIfInBounds (k2 * 4) (.string ⟨#[115, 112, 111, 105, 108, 116]⟩)).setIfInBounds (k2 * 4 + 1) (.string ⟨#[]⟩)).setIfInBounds (k2 * 4 + 2) (.bool false)) := by
          have e : ad.add (k2 * 4) = ⟨g6, k2 * 4, none⟩ := by rw [had.out, add_lit]
          rw [e] at B72 ⊢
          exact B72.set_ _ _
        obtain ⟨_, _, _, d, _, _, _, c3', _, _, _, f3⟩ := cells4_ B73 had.out hlt2 (by simpa using hcz)
        obtain ⟨cs2, hz2, hB2, hm2⟩ := spoil4 B7 had.out k2 (.string ⟨#[115, 112, 111, 105, 108, 116]⟩) (.string ⟨#[]⟩) (.bool false) (.int .i64 0)
        have m8 := m7.then_ hm2 (fun _ _ h => h)
        replace hz2 := Lib.hid hz2
        clear B71 B72 B73
        go_wp2_with fail
        exact ⟨⟨k2 + 1, cs2, by omega, by go_num, by rw [hz2.out]; exact hcz, hB2, m8⟩, by simp [intOf] <;> omega⟩
      have hbl2 : decide ((k2 : Int) < (L.length : Int)) = false := dfalse (by omega)
      have y8 := hy6 m7
      have hT8 := hTx m7
      have hcL := hcs y8
      clear B7 hcz hTx hy6 m7
      obtain ⟨n, hn⟩ : ∃ n, L.length = n + 1 := ⟨L.length - 1, by omega⟩
      have hlk : (lastC L).key = (L.getD n default).key := by unfold lastC; rw [hn, Nat.add_sub_cancel]
      obtain ⟨A', c', hv, _, _, _, h4⟩ := hcL.open_ cel_len
      injection hv with e1 e2 e3
      subst e1
      obtain ⟨ada, hA, _⟩ := Cs.at_ h4 (i := n) (by omega)
      subst hA
      have hcell : ∀ {wx : World}, Ext w wx → wx.cell? (ada.add (n * 4)) = some (sv (lastC L).key) := fun x => by
        obtain ⟨A'', c'', hv2, _, _, _, h5⟩ := (hcs x).open_ cel_len
        injection hv2 with e4 _ _
        subst e4
        obtain ⟨ad', hA', _, d0, _⟩ := Cs.at_ h5 (i := n) (by omega)
        cases hA'
        rw [hlk, getD_c L (by omega)]
        exact d0
      have y9 : Ext w wr.drew := y8.drew
      have q0 := hcell y9
      have hT9 : TL (fun j => w3.heap.size ≤ j ∧ j < w4.heap.size) wr.drew (.pointer (some ⟨g, 0, none⟩)) L := hT8.ext ((Mod.refl (fun _ => False) wr).drew)
      have hs1 : Calls Tryd.prog 19 #[.pointer (some ⟨g, 0, none⟩), .string ⟨#[]⟩, .string ⟨#[]⟩] wr.drew fun e w' => ∃ v', e = .returned v' ∧ OwnC w' v' L ∧ Fresh wr.drew.heap.size v' ∧ Ext wr.drew w' := hsc hT9
      have hi5 : IntKind.i64.wrap (n : Int) = (n : Int) := by rw [IntKind.wrap_i64]; omega
      have hn0 : (0 : Int) ≤ (n : Int) := by omega
      have hn1 : (n : Int) < (n : Int) + 1 := by omega
      clear h4 hcL e2 e3 hlk hbl hbl2 hT8 y8
      generalize (lastC L).key = key at *
      rw [hn]
      rw [hn] at hcs
      go_wp2_with fail
      go_region_held3 (fun wx => wx.cell? (ada.add (n * 4)) = some (sv key)) (first | exact q0 | exact qa | exact qb | exact qc | exact qd) (first
        | (go_at_call 19; (with_reducible refine hs1.mono ?_); rintro e wa ⟨va, rfl, oa, fa, xa⟩; have ya := ext_trans y9 xa; have qa := hcell ya; have hTa := hT9.ext xa; have hce := cells8_any oa.rc (hcs ya) (by omega); rw [decide_eq_true rfl] at hce)
        | (go_at_call 18; (with_reducible refine hce.mono ?_); rintro e wb ⟨rfl, xb⟩; have yb := ext_trans ya xb; have qb := hcell yb; have hlb := hla (hTa.ext xb))
        | (go_at_call 26; (with_reducible refine hlb.mono ?_); rintro e wc ⟨rfl, nn, rfl⟩; have yc := yb.drewN nn; have qc := hcell yc; have hkn := known8_any (hN.mod yc (fun h => h)))
        | (go_at_call 13; (with_reducible refine hkn.mono ?_); rintro e wd ⟨rfl, xd⟩; have yd := ext_trans yc xd; have qd := hcell yd))
      all_goals go_wp2_with fail
      all_goals go_ret
      all_goals exact ⟨rfl, yd⟩
end Go.Proofs.YthohghnfiicndaaDoor
