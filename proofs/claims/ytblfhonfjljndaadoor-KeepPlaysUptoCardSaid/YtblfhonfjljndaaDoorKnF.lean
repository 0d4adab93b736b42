/- keep: a script played on both disks. -/
import Derived.Test.YtblfhonfjljndaaDoorKnE
import Derived.Test.YtblfhonfjljndaaDoorDkY
import Derived.Test.YtblfhonfjljndaaDoorKpD
import Derived.Deep.CutBlock
import Derived.Deep.DeepCutAuto
import Derived.Deep.RegionHeld3
namespace Go.Proofs.YtblfhonfjljndaaDoor
open Go.RowKit Go.Maps Go.WideMaps
set_option maxRecDepth 100000

section
variable {N F : Nat → Prop} {w w' : World} {v u : Value} {d d' : Ds}
theorem Dk.name_len4 {S : Nat → Prop} (h : Dk S w v d) {x : List UInt8} (hx : x ∈ nms d.L) : x.length ≤ 64 ∧ codeR (readD d x) = 0 := by
  obtain ⟨bd, bm, D, G, rfl, h⟩ := h
  obtain ⟨f, hf, rfl⟩ := List.mem_map.1 hx
  refine ⟨(h.fl f hf).2.2, ?_⟩
  unfold readD
  rw [getF_of_mem h.rise hf]
  rfl
theorem fuse_dk {S : Nat → Prop} (h : Dk S w v d) (n : Int) (hn : n ≤ 9223372036854775807) :
    Calls Tryd.prog 17 #[v, .int .i64 n] w fun e w' => e = .returned (.tuple #[]) ∧ Dk (Grow S w) w' v (fuseD d n) ∧ Mod S w w' := by
  obtain ⟨bd, bm, D, G, rfl, h⟩ := h
  have hs := h.sd
  exact (fuse_any h n hn).mono fun e w' ⟨e1, e2, e3⟩ => ⟨e1, ⟨bd, bm, D, G, rfl, e2.mono fun k _ hk => .inl hk⟩, e3.mono fun k _ hk => hk ▸ hs⟩
theorem boxedK {N : Nat → Prop} {w : World} {v u : Value} {d : Ds} (h : Pair N w v u d d) (hN : ∀ k, N k → k < w.heap.size) (s : Sk) :
    ∃ (N1 : Nat → Prop) (w1 : World) (wb : Nat), w.alloc (.cells (skar s) 35) = w1 ∧ w.heap.size = wb ∧ Pair N1 w1 v u d d ∧ (∀ k, N1 k → k < w1.heap.size) ∧ (∀ k, N k → N1 k) ∧ N1 wb ∧ Blk w1 wb 35 (skar s) ∧ Ext w w1 := by
  refine ⟨fun k => N k ∨ k = w.heap.size, _, _, rfl, rfl, ?_, fun k hk => ?_, fun k hk => .inl hk, .inr rfl, Blk.new _ _ _, (Mod.refl _ w).alloc _⟩
  · exact (h.more (N' := fun k => N k ∨ k = w.heap.size) fun k hk => hk.imp id fun e => by omega).ext ((Mod.refl _ w).alloc _)
  · have e : (w.alloc (.cells (skar s) 35)).heap.size = w.heap.size + 1 := by simp
    rcases hk with h | h
    · have := hN k h; omega
    · omega
theorem rows2 {w : World} {T : Nat → Prop} {u v : Value} {a b : List UInt8} (hu : Bs w T u a) (hv : Bs w T v b) : Rw (w.alloc (.cells #[u, v] 32)) (fun k => T k ∨ k = w.heap.size) (.slice (some ⟨w.heap.size, 0, none⟩) 2 2) [a, b] := by
  refine ⟨[u, v], rfl, (Sl.lit w 32 [u, v] (by simp [maxLen])).mono (fun k _ hk => .inr hk), fun k x l hx hl => ?_⟩
  have x0 : Ext w (w.alloc (.cells #[u, v] 32)) := (Mod.refl _ w).alloc _
  match k, hx, hl with
  | 0, hx, hl =>
    obtain rfl := Option.some.inj hx
    obtain rfl := Option.some.inj hl
    exact (hu.mono (T := fun k => T k ∨ k = w.heap.size) fun k _ hk => .inl hk).mod x0 fun _ _ _ h => h
  | 1, hx, hl =>
    obtain rfl := Option.some.inj hx
    obtain rfl := Option.some.inj hl
    exact (hv.mono (T := fun k => T k ∨ k = w.heap.size) fun k _ hk => .inl hk).mod x0 fun _ _ _ h => h
theorem Rw.ext_ {w w' : World} {T : Nat → Prop} {y : Value} {P : Tx} (h : Rw w T y P) (x : Ext w w') : Rw w' T y P := by
  obtain ⟨vs, h1, h2, h3⟩ := h
  exact ⟨vs, h1, h2.ext x, fun k z l hz hl => (h3 k z l hz hl).mod x fun _ _ _ h => h⟩
set_option maxHeartbeats 64000000 in
theorem playsK_any {S : Nat → Prop} {room : Int} {y : Value} {L : List Sk} (h : Sks w S y L) (hok : ∀ c ∈ L, SkOk w c ∧ SkSm c) (hl : L.length ≤ 140737488351232) (hNb : Nib w) :
    Calls Tryd.prog 3 #[.int .i64 room, y] w fun e w' => e = .returned (.bool true) ∧ Ext w w' := by
  have hc1 := heavy4_any h hok hl
  obtain ⟨A, c, rfl, h1, h2, h3, h4⟩ := h.open_ skl_len
  go_enter Tryd.func3, Tryd.ntmps3
  go_wp2_with fail
  refine hc1.mono ?_
  rintro e w1 ⟨q, rfl, hq, x1⟩
  clear hc1
  cases q with
  | true =>
    go_wp2_with fail
    refine (known4_any (hNb.ext x1)).mono ?_
    rintro e w2 ⟨rfl, x2⟩
    go_wp2_with fail
    go_ret
    exact ⟨rfl, ext_trans x1 x2⟩
  | false =>
    have hlight := hq rfl
    clear hq
    by_cases hroom : room < 0 ∨ 1048576 < room
    · rcases hroom with hr | hr
      · have b1 : decide (room < 0) = true := dtrue hr
        go_wp2_with fail
        refine (known4_any (hNb.ext x1)).mono ?_
        rintro e w2 ⟨rfl, x2⟩
        go_wp2_with fail
        go_ret
        exact ⟨rfl, ext_trans x1 x2⟩
      · have b1 : decide (room < 0) = false := dfalse (by omega)
        have b2 : decide (1048576 < room) = true := dtrue hr
        go_wp2_with fail
        refine (known4_any (hNb.ext x1)).mono ?_
        rintro e w2 ⟨rfl, x2⟩
        go_wp2_with fail
        go_ret
        exact ⟨rfl, ext_trans x1 x2⟩
    have b1 : decide (room < 0) = false := dfalse (by omega)
    have b2 : decide (1048576 < room) = false := dfalse (by omega)
    have hc1 := new_any (w := w1) room (by omega) (by omega)
    go_wp2_with fail
    refine hc1.mono ?_
    rintro e w2 ⟨bd, rfl, hd2, hle2, x2⟩
    have hc2 := rnew_any (w := w2) room (by omega) (by omega)
    clear hc1
    go_wp2_with fail
    refine hc2.mono ?_
    rintro e w3 ⟨bu, rfl, hr3, x3⟩
    clear hc2
    have y3 := ext_trans x1 (ext_trans x2 x3)
    have P3 : Pair (fun k => k < w.heap.size) w3 (pv bd) (pv bu) (newD room) (newD room) := by
      have z1 := x1.size
      have z2 := x2.size
      have z3 := x3.size
      exact ⟨_, _, hd2.cut.ext x3, hr3.cut, fun k hk => ⟨by have := hk.2; omega, by have := hk.1; omega⟩, fun k hk => ⟨hk.2, by have := hk.1; omega⟩, fun k hk ht => by have := hk.2; have := ht.1; omega⟩
    clear hd2 hr3 hle2 x1 x2 x3 hroom h b1 b2
    go_wp2_with fail
    go_loopw [9] (fun i wr => ∃ (k : Nat) (d : Ds), k ≤ L.length ∧ i = .int .i64 k ∧ Pair (fun k => k < w.heap.size) wr (pv bd) (pv bu) d d ∧ Ext w wr) (fun i _ => L.length - (intOf i).toNat)
    case atStart => exact ⟨0, _, Nat.zero_le _, rfl, P3, y3⟩
    case round =>
      clear P3 y3
      obtain ⟨k, d, hk, rfl, P, hx⟩ := hrel
      by_cases hlt : k < L.length ∧ k < 80
      case neg =>
        by_cases hlt1 : k < L.length
        · have hbl : decide ((k : Int) < (L.length : Int)) = true := dtrue (by omega)
          have hbk : decide ((k : Int) < 80) = false := dfalse (by omega)
          go_wp2_with fail
          refine (known4_any (hNb.ext hx)).mono ?_
          rintro e w4 ⟨rfl, x4⟩
          go_wp2_with fail
          go_ret
          exact ⟨rfl, ext_trans hx x4⟩
        · have hbl : decide ((k : Int) < (L.length : Int)) = false := dfalse (by omega)
          go_wp2_with fail
          refine (known4_any (hNb.ext hx)).mono ?_
          rintro e w4 ⟨rfl, x4⟩
          go_wp2_with fail
          go_ret
          exact ⟨rfl, ext_trans hx x4⟩
      obtain ⟨hlt, hk3⟩ := hlt
      have hbl : decide ((k : Int) < (L.length : Int)) = true := dtrue (by omega)
      have hbk : decide ((k : Int) < 80) = true := dtrue (by omega)
      obtain ⟨ad, hA, -, c0, c1, c2, c3, c4, c5⟩ := Sks.at_ (h4.ext hx) hlt
      subst hA
      obtain ⟨⟨⟨s0, s1, s2⟩, hn, -⟩, -⟩ := hok _ (List.getElem_mem hlt)
      have hfew := wK_few hlight hlt hk3
      have hi0 : (0 : Int) ≤ (k : Int) := by omega
      have hi1 : (k : Int) < (L.length : Int) := by omega
      have sa : Bs wr (fun k => k < w.heap.size) L[k].va L[k].a := (s0.mono (T := fun k => k < w.heap.size) fun k hk _ => hk).mod hx fun _ _ _ h => h
      have sb : Bs wr (fun k => k < w.heap.size) L[k].vb L[k].b := (s1.mono (T := fun k => k < w.heap.size) fun k hk _ => hk).mod hx fun _ _ _ h => h
      have ss : Ts wr (fun k => k < w.heap.size) L[k].vs L[k].s := (Sl.mono (T := fun k => k < w.heap.size) s2 fun k hk _ => hk).mod hx fun _ _ _ h => h
      have hsz := hx.size
      have hlx : L[k].x.length ≤ 5000 := by unfold wKc at hfew; omega
      have hla : L[k].a.length + L[k].b.length ≤ 5000 := by unfold wKc at hfew; omega
      have hls : L[k].s.length ≤ 5000 := by have := wT_len L[k].s; unfold wKc at hfew; omega
      have hP0 := boxedK P (fun k hk => by omega) L[k]
      clear s0 s1 s2 h4 hok hlight hfew
      generalize L[k] = x at *
      obtain ⟨kind, n, nm, a, b, s, va, vb, vs⟩ := x
      simp only at c0 c1 c2 c3 c4 c5 hn sa sb ss hlx hla hls
      obtain ⟨Aa, na, ca, rfl⟩ : ∃ A n c, va = Value.slice A n c := by obtain ⟨A, c, e, _⟩ := sa.open_; exact ⟨A, _, c, e⟩
      obtain ⟨Ab, nb, cb, rfl⟩ : ∃ A n c, vb = Value.slice A n c := by obtain ⟨A, c, e, _⟩ := sb.open_; exact ⟨A, _, c, e⟩
      obtain ⟨As, ns, cs, rfl⟩ : ∃ A n c, vs = Value.slice A n c := by obtain ⟨A, c, e, _⟩ := ss.open_; exact ⟨A, _, c, e⟩
      go_upto_block 2 with fail
      obtain ⟨N1, w4, wb, hw4, hwb, hP, hN1, hsub, hb1, bX, x4⟩ := hP0
      rw [hw4, hwb]
      clear hw4 hwb P c0 c1 c2 c3 c4 c5
      have hxw := ext_trans hx x4
      have hfin : ∀ (wx : World) (d1 : Ds) (N' : Nat → Prop), (∀ k, k < w.heap.size → N' k) → Pair N' wx (pv bd) (pv bu) d1 d1 → ∃ d1, Pair (fun k => k < w.heap.size) wx (pv bd) (pv bu) d1 d1 := fun wx d1 N' hs P' => ⟨d1, P'.less fun k hk => hs k hk⟩
      have hmx : ∀ {wx : World}, Mod (fun k => ¬ N1 k) w4 wx → Ext w wx := fun m => hxw.trans m (fun _ _ h => h) fun k hk hn => hn (hsub k hk)
      have hbc : ∀ {wx : World}, Mod (fun k => ¬ N1 k) w4 wx → Blk wx wb 35 (skar ⟨kind, n, nm, a, b, s, .slice Aa na ca, .slice Ab nb cb, .slice As ns cs⟩) := fun m => bX.mod m fun hn => hn hb1
      have hNx : ∀ {wx : World}, Mod (fun k => ¬ N1 k) w4 wx → ∀ k, N1 k → k < wx.heap.size := fun m k hk => Nat.lt_of_lt_of_le (hN1 k hk) m.size
      go_cut [11] (fun s11 wx => s11 = .bool true ∧ (∃ d1, Pair (fun k => k < w.heap.size) wx (pv bd) (pv bu) d1 d1) ∧ Ext w wx)
      case first =>
        by_cases k1 : kind = 1
        · subst k1
          have q0 : Ext w4 w4.drew := (Mod.refl _ w4).drew
          have P0 := hP.ext q0
          have p0 : Mod (fun k => ¬ N1 k) w4 w4.drew := (Mod.refl _ w4).drew
          have hS : ∀ {wx : World}, Mod (fun k => ¬ N1 k) w4 wx → wx.cell? ⟨wb, 2, none⟩ = some (sv nm) ∧ wx.cell? ⟨wb, 3, none⟩ = some (.slice Aa na ca) ∧ wx.cell? ⟨wb, 4, none⟩ = some (.slice Ab nb cb) := fun {wx} m => ⟨(hbc m).cell 2, (hbc m).cell 3, (hbc m).cell 4⟩
          have sA : ∀ {wx : World}, Mod (fun k => ¬ N1 k) w4 wx → Bs wx (fun k => k < w.heap.size) (.slice Aa na ca) a := fun m => (sa.mod x4 fun _ _ _ h => h).mod m fun k _ hk hn => hn (hsub k hk)
          have sB : ∀ {wx : World}, Mod (fun k => ¬ N1 k) w4 wx → Bs wx (fun k => k < w.heap.size) (.slice Ab nb cb) b := fun m => (sb.mod x4 fun _ _ _ h => h).mod m fun k _ hk hn => hn (hsub k hk)
          have hn1 : (([] : List Value).length + (a.map bv).length) * 1 ≤ 140737488355328 := by simp only [List.length_nil, List.length_map]; omega
          have hn2 : ((a.map bv).length + (b.map bv).length) * 1 ≤ 140737488355328 := by simp only [List.length_map]; omega
          have hs0 : ∀ k, N1 k → k < w4.drew.heap.size := hN1
          have hi0' : ∀ k, N1 k → N1 k := fun _ h => h
          have flat2 : [a, b].flatten = a ++ b := by simp
          obtain ⟨sd, hsd⟩ : ∃ r, r = saveD d nm (a ++ b) := ⟨_, rfl⟩
          have hsv : ∀ {S T : Nat → Prop} {W : World} {y : Value}, Dk S W (pv bd) d → Rw W T y [a, b] → Nib W → Calls Tryd.prog 8 #[pv bd, sv nm, y] W fun e w' => e = .returned (ev sd.2) ∧ Dk (Grow S W) w' (pv bd) sd.1 ∧ Mod S W w' := fun h hy hN => by
            have q := save_any (P := [a, b]) h nm (by omega) hy hN (by rw [flat2, List.length_append]; omega)
            rw [flat2, ← hsd] at q
            exact q
          have hrs : ∀ {N V : Nat → Prop} {W : World} {y : Value}, Sole N W (pv bu) d → (∀ k, N k → k < W.heap.size) → Bs W V y (a ++ b) → (∀ k, V k → k < W.heap.size) → Calls Tryd.prog 9 #[pv bu, sv nm, y] W fun e w' => e = .returned (ev sd.2) ∧ Sole N w' (pv bu) sd.1 ∧ Mod (fun k => ¬ N k) W w' := fun h hN hy hV => by
            have q := rsave_any h hN nm (by omega) hy (by rw [List.length_append]; omega) hV
            rw [← hsd] at q
            exact q
          have hcc9 : ((sd.2 : Int) == (sd.2 : Int)) = true := by simp
          clear hsd
          go_upto_region 14 with fail
          refine wp_region_held_drew (S := fun wx => wx.cell? ⟨wb, 2, none⟩ = some (sv nm) ∧ wx.cell? ⟨wb, 3, none⟩ = some (.slice Aa na ca) ∧ wx.cell? ⟨wb, 4, none⟩ = some (.slice Ab nb cb)) (by kernel_rfl) (hS p0) (fun hH => ?_)
          generalize w4.drew = wD at *
          (refine wpAnyH_take (i := 0) (oi := ⟨_, _, _, _, _, _⟩) (v := ?tv51) rfl (by kernel_rfl) (by kernel_rfl) (by kernel_rfl) (fun _ _ _ h => h) (Or.inl ⟨by kernel_rfl, ?hy51⟩) hH ?rs51; (case hy51 => (intro wx hSw; (try dsimp only at hSw); go_simp; try with_reducible rfl)); try simp only [Act.put, List.setIfInBounds_toArray, List.set_cons_zero, List.set_cons_succ]; try simp only [List.getElem_toArray, List.getElem_cons_succ, List.getElem_cons_zero])
          (refine wpAnyH_take (i := 1) (oi := ⟨_, _, _, _, _, _⟩) (v := ?tv52) rfl (by kernel_rfl) (by kernel_rfl) (by kernel_rfl) (fun _ _ _ h => h) (Or.inl ⟨by kernel_rfl, ?hy52⟩) hH ?rs52; (case hy52 => (intro wx hSw; (try dsimp only at hSw); go_simp; try with_reducible rfl)); try simp only [Act.put, List.setIfInBounds_toArray, List.set_cons_zero, List.set_cons_succ]; try simp only [List.getElem_toArray, List.getElem_cons_succ, List.getElem_cons_zero])
          (refine wpAnyH_take (i := 2) (oi := ⟨_, _, _, _, _, _⟩) (v := ?tv53) rfl (by kernel_rfl) (by kernel_rfl) (by kernel_rfl) (fun _ _ _ h => h) (Or.inl ⟨by kernel_rfl, ?hy53⟩) hH ?rs53; (case hy53 => (intro wx hSw; (try dsimp only at hSw); go_simp; try with_reducible rfl)); try simp only [Act.put, List.setIfInBounds_toArray, List.set_cons_zero, List.set_cons_succ]; try simp only [List.getElem_toArray, List.getElem_cons_succ, List.getElem_cons_zero])
          (refine wpAnyH_take (i := 3) (oi := ⟨_, _, _, _, _, _⟩) (v := ?tv54) rfl (by kernel_rfl) (by kernel_rfl) (by kernel_rfl) (fun _ _ _ h => h) (Or.inl ⟨by kernel_rfl, ?hy54⟩) hH ?rs54; (case hy54 => (intro wx hSw; (try dsimp only at hSw); go_simp; try with_reducible rfl)); try simp only [Act.put, List.setIfInBounds_toArray, List.set_cons_zero, List.set_cons_succ]; try simp only [List.getElem_toArray, List.getElem_cons_succ, List.getElem_cons_zero])
          (refine wpAnyH_take (i := 4) (oi := ⟨_, _, _, _, _, _⟩) (v := ?tv55) rfl (by kernel_rfl) (by kernel_rfl) (by kernel_rfl) (fun _ _ _ h => h) (Or.inl ⟨by kernel_rfl, ?hy55⟩) hH ?rs55; (case hy55 => (intro wx hSw; (try dsimp only at hSw); go_simp; try with_reducible rfl)); try simp only [Act.put, List.setIfInBounds_toArray, List.set_cons_zero, List.set_cons_succ]; try simp only [List.getElem_toArray, List.getElem_cons_succ, List.getElem_cons_zero])
          (refine wpAnyH_take (i := 5) (oi := ⟨_, _, _, _, _, _⟩) (v := ?tv56) rfl (by kernel_rfl) (by kernel_rfl) (by kernel_rfl) (fun _ _ _ h => h) (Or.inl ⟨by kernel_rfl, ?hy56⟩) hH ?rs56; (case hy56 => (intro wx hSw; (try dsimp only at hSw); go_simp; try with_reducible rfl)); try simp only [Act.put, List.setIfInBounds_toArray, List.set_cons_zero, List.set_cons_succ]; try simp only [List.getElem_toArray, List.getElem_cons_succ, List.getElem_cons_zero])
          (refine wpAnyH_take (i := 6) (oi := ⟨_, _, _, _, _, _⟩) (v := ?tv57) rfl (by kernel_rfl) (by kernel_rfl) (by kernel_rfl) (fun _ _ _ h => h) (Or.inl ⟨by kernel_rfl, ?hy57⟩) hH ?rs57; (case hy57 => (intro wx hSw; (try dsimp only at hSw); go_simp; try with_reducible rfl)); try simp only [Act.put, List.setIfInBounds_toArray, List.set_cons_zero, List.set_cons_succ]; try simp only [List.getElem_toArray, List.getElem_cons_succ, List.getElem_cons_zero])
          (refine wpAnyH_take (i := 9) (oi := ⟨_, _, _, _, _, _⟩) (v := ?tv58) rfl (by kernel_rfl) (by kernel_rfl) (by kernel_rfl) (fun _ _ _ h => h) (Or.inl ⟨by kernel_rfl, ?hy58⟩) hH ?rs58; (case hy58 => (intro wx hSw; (try dsimp only at hSw); go_simp; try with_reducible rfl)); try simp only [Act.put, List.setIfInBounds_toArray, List.set_cons_zero, List.set_cons_succ]; try simp only [List.getElem_toArray, List.getElem_cons_succ, List.getElem_cons_zero])
          (refine wpAnyH_take (i := 10) (oi := ⟨_, _, _, _, _, _⟩) (v := ?tv59) rfl (by kernel_rfl) (by kernel_rfl) (by kernel_rfl) (fun _ _ _ h => h) (Or.inl ⟨by kernel_rfl, ?hy59⟩) hH ?rs59; (case hy59 => (intro wx hSw; (try dsimp only at hSw); go_simp; try with_reducible rfl)); try simp only [Act.put, List.setIfInBounds_toArray, List.set_cons_zero, List.set_cons_succ]; try simp only [List.getElem_toArray, List.getElem_cons_succ, List.getElem_cons_zero])
          (refine wpAnyH_take (i := 11) (oi := ⟨_, _, _, _, _, _⟩) (v := ?tv60) rfl (by kernel_rfl) (by kernel_rfl) (by kernel_rfl) (fun _ _ _ h => h) (Or.inl ⟨by kernel_rfl, ?hy60⟩) hH ?rs60; (case hy60 => (intro wx hSw; (try dsimp only at hSw); go_simp; try with_reducible rfl)); try simp only [Act.put, List.setIfInBounds_toArray, List.set_cons_zero, List.set_cons_succ]; try simp only [List.getElem_toArray, List.getElem_cons_succ, List.getElem_cons_zero])
          (refine wpAnyH_take (i := 13) (oi := ⟨_, _, _, _, _, _⟩) (v := ?tv61) rfl (by kernel_rfl) (by kernel_rfl) (by kernel_rfl) (fun _ _ _ h => h) (Or.inl ⟨by kernel_rfl, ?hy61⟩) hH ?rs61; (case hy61 => (intro wx hSw; (try dsimp only at hSw); go_simp; try with_reducible rfl)); try simp only [Act.put, List.setIfInBounds_toArray, List.set_cons_zero, List.set_cons_succ]; try simp only [List.getElem_toArray, List.getElem_cons_succ, List.getElem_cons_zero])
          (refine wpAnyH_take (i := 14) (oi := ⟨_, _, _, _, _, _⟩) (v := ?tv62) rfl (by kernel_rfl) (by kernel_rfl) (by kernel_rfl) (fun _ _ _ h => h) (Or.inl ⟨by kernel_rfl, ?hy62⟩) hH ?rs62; (case hy62 => (intro wx hSw; (try dsimp only at hSw); go_simp; try with_reducible rfl)); try simp only [Act.put, List.setIfInBounds_toArray, List.set_cons_zero, List.set_cons_succ]; try simp only [List.getElem_toArray, List.getElem_cons_succ, List.getElem_cons_zero])
          (refine wpAnyH_take (i := 16) (oi := ⟨_, _, _, _, _, _⟩) (v := ?tv63) rfl (by kernel_rfl) (by kernel_rfl) (by kernel_rfl) (fun _ _ _ h => h) (Or.inl ⟨by kernel_rfl, ?hy63⟩) hH ?rs63; (case hy63 => (intro wx hSw; (try dsimp only at hSw); go_simp; try with_reducible rfl)); try simp only [Act.put, List.setIfInBounds_toArray, List.set_cons_zero, List.set_cons_succ]; try simp only [List.getElem_toArray, List.getElem_cons_succ, List.getElem_cons_zero])
          (refine wpAnyH_take (i := 17) (oi := ⟨_, _, _, _, _, _⟩) (v := ?tv64) rfl (by kernel_rfl) (by kernel_rfl) (by kernel_rfl) (fun _ _ _ h => h) (Or.inl ⟨by kernel_rfl, ?hy64⟩) hH ?rs64; (case hy64 => (intro wx hSw; (try dsimp only at hSw); go_simp; try with_reducible rfl)); try simp only [Act.put, List.setIfInBounds_toArray, List.set_cons_zero, List.set_cons_succ]; try simp only [List.getElem_toArray, List.getElem_cons_succ, List.getElem_cons_zero])
          refine wpAnyH_ready (rs := [7, 12]) (by kernel_rfl) (by simp) ?_
          refine AllReadyH.cons rfl (fun K hK => ?g1) (AllReadyH.cons rfl (fun K hK => ?g2) AllReadyH.nil)
          case g1 =>
            have hywz3 := rows2 (w := wD) (sA p0) (sB p0)
            have m4 : Mod (fun k => ¬ N1 k) w4 (wD.alloc (.cells #[.slice Aa na ca, .slice Ab nb cb] 32)) := p0.alloc _
            have P5 := Pair.ext P0 ((Mod.refl (fun _ => False) wD).alloc (.cells #[.slice Aa na ca, .slice Ab nb cb] 32))
            have hs7 : ∀ k, N1 k → k < (wD.alloc (.cells #[.slice Aa na ca, .slice Ab nb cb] 32)).heap.size := fun k hk => Nat.lt_of_lt_of_le (hs0 k hk) ((Mod.refl (fun _ => False) wD).alloc (.cells #[.slice Aa na ca, .slice Ab nb cb] 32)).size
            go_simp
            (go_wp2_with fail; refine hK.out _ _ (hS m4) (fun hH => ?_); clear hK K; try simp only [Act.put, List.setIfInBounds_toArray, List.set_cons_zero, List.set_cons_succ]; try simp only [List.getElem_toArray, List.getElem_cons_succ, List.getElem_cons_zero])
            generalize (wD.alloc (.cells #[.slice Aa na ca, .slice Ab nb cb] 32)) = wz3 at *
            generalize wD.heap.size = hR at *
            refine wpAnyH_ready (rs := [8, 12]) (by kernel_rfl) (by simp) ?_
            refine AllReadyH.cons rfl (fun K hK => ?g9) (AllReadyH.cons rfl (fun K hK => ?g10) AllReadyH.nil)
            case g9 =>
              go_simp
              refine (Pair.left_ P5 hs7 (fun S hd hs => hsv hd hywz3 (hNb.ext (hmx m4)))).mono ?_
              rintro e wz11 ⟨rfl, P13, mc⟩
              have m12 := m4.then_ mc fun k _ hk hn => hk (hi0' k hn)
              have hs15 : ∀ k, N1 k → k < wz11.heap.size := fun k hk => Nat.lt_of_lt_of_le (hs7 k hk) mc.size
              clear mc
              (go_wp2_with fail; refine hK.out _ _ (hS m12) (fun hH => ?_); clear hK K; try simp only [Act.put, List.setIfInBounds_toArray, List.set_cons_zero, List.set_cons_succ]; try simp only [List.getElem_toArray, List.getElem_cons_succ, List.getElem_cons_zero])
              refine wpAnyH_ready (rs := [12]) (by kernel_rfl) (by simp) ?_
              refine AllReadyH.cons rfl (fun K hK => ?_) AllReadyH.nil
              obtain ⟨NN20, P19, hs21, hi22, hEn⟩ : ∃ N2 : Nat → Prop, Pair N2 (wz11.alloc (.cells #[] 5)) (pv bd) (pv bu) sd.1 d ∧ (∀ k, N2 k → k < (wz11.alloc (.cells #[] 5)).heap.size) ∧ (∀ k, N1 k → N2 k) ∧ N2 wz11.heap.size := ⟨_, (Pair.new P13 hs15 (.cells #[] 5)).1, (Pair.new P13 hs15 (.cells #[] 5)).2.1, fun k hk => .inl (hi0' k hk), .inr rfl⟩
              have oE : Own (wz11.alloc (.cells #[] 5)) 5 (.slice (some ⟨wz11.heap.size, 0, none⟩) 0 0) [] := Own.empty wz11 _
              have hE4 : w4.heap.size ≤ wz11.heap.size := m12.size
              have m18 : Mod (fun k => ¬ N1 k) w4 (wz11.alloc (.cells #[] 5)) := m12.alloc _
              go_simp
              (go_wp2_with fail; refine hK.out _ _ (hS m18) (fun hH => ?_); clear hK K; try simp only [Act.put, List.setIfInBounds_toArray, List.set_cons_zero, List.set_cons_succ]; try simp only [List.getElem_toArray, List.getElem_cons_succ, List.getElem_cons_zero])
              generalize (wz11.alloc (.cells #[] 5)) = wz17 at *
              generalize wz11.heap.size = hE at *
              have PA := Pair.more (N' := fun k => NN20 k ∨ wz17.heap.size ≤ k) P19 fun k hk => hk
              refine wpAnyH_ready (rs := [15]) (by kernel_rfl) (by simp) ?_
              refine AllReadyH.cons rfl (fun K hK => ?_) AllReadyH.nil
              refine step_app 82 tyB oE (sA m18) (bv_one _) hn1 rfl rfl (.tmp 79) (.tmp 81) rfl rfl rfl ?_
              intro vA wA ka1 ka2 ka3
              rw [List.nil_append] at ka1
              have hoA : ∀ k, own (.slice (some ⟨hE, 0, none⟩) 0 0) k → k = hE := fun k hk => (Option.some.inj hk).symm
              have mA := m18.then_ ka2 fun k _ hk hn => by (have := hN1 k hn; have := hoA k hk; omega)
              have PB := Pair.mod PA ka2 fun k hk => .inl (by rw [hoA k hk]; exact hEn)
              have hfA : ∀ k, own vA k → NN20 k ∨ wz17.heap.size ≤ k := fun k hk => by (by_cases q : k < wz17.heap.size); (exact .inl (by rw [hoA k (ka3.sub q hk)]; exact hEn)); (exact .inr (by omega))
              have hfA4 : ∀ k, own vA k → ¬ N1 k := fun k hk hn => by (have h9 := hN1 k hn; have h8 : k < wz17.heap.size := Nat.lt_of_lt_of_le h9 m18.size; have := hoA k (ka3.sub h8 hk); omega)
              clear hoA
              replace hfA := Lib.hid hfA
              replace hfA4 := Lib.hid hfA4
              (refine hK.out _ _ (hS mA) (fun hH => ?_); clear hK K; try simp only [Act.put, List.setIfInBounds_toArray, List.set_cons_zero, List.set_cons_succ]; try simp only [List.getElem_toArray, List.getElem_cons_succ, List.getElem_cons_zero])
              refine wpAnyH_ready (rs := [18]) (by kernel_rfl) (by simp) ?_
              refine AllReadyH.cons rfl (fun K hK => ?_) AllReadyH.nil
              refine step_app 85 tyB ka1 (sB mA) (bv_one _) hn2 rfl rfl (.tmp 82) (.tmp 84) rfl rfl rfl ?_
              intro vB wB kb1 kb2 kb3
              rw [← List.map_append] at kb1
              have mB := mA.then_ kb2 fun k _ hk hn => hfA4.out k hk hn
              have PC := Pair.mod PB kb2 fun k hk => hfA.out k hk
              (refine hK.out _ _ (hS mB) (fun hH => ?_); clear hK K; try simp only [Act.put, List.setIfInBounds_toArray, List.set_cons_zero, List.set_cons_succ]; try simp only [List.getElem_toArray, List.getElem_cons_succ, List.getElem_cons_zero])
              have PD := Pair.less (N' := fun k => (NN20 k ∨ wz17.heap.size ≤ k) ∧ k < wB.heap.size) PC fun k hk => hk.1
              refine wpAnyH_ready (rs := [19]) (by kernel_rfl) (by simp) ?_
              refine AllReadyH.cons rfl (fun K hK => ?_) AllReadyH.nil
              go_simp
              refine (Pair.rightS PD (fun N9 h1 h2 hs => hrs hs (fun k hk => (h2 k hk).elim (fun h => h.2) id) kb1.sl (fun k hk => kb1.lt hk))).mono ?_
              rintro e wF ⟨rfl, PF, mF⟩
              have m9 := mB.then_ mF fun k _ hk hn => hk ⟨.inl (hi22 k hn), Nat.lt_of_lt_of_le (hN1 k hn) mB.size⟩
              (go_wp2_with fail; refine hK.out _ _ (hS m9) (fun hH => ?_); clear hK K; try simp only [Act.put, List.setIfInBounds_toArray, List.set_cons_zero, List.set_cons_succ]; try simp only [List.getElem_toArray, List.getElem_cons_succ, List.getElem_cons_zero])
              (refine wpAnyH_take (i := 20) (oi := ⟨_, _, _, _, _, _⟩) (v := ?tv65) rfl (by kernel_rfl) (by kernel_rfl) (by kernel_rfl) (fun _ _ _ h => h) (Or.inl ⟨by kernel_rfl, ?hy65⟩) hH ?rs65; (case hy65 => (intro wx hSw; (try dsimp only at hSw); go_simp; try with_reducible rfl)); try simp only [Act.put, List.setIfInBounds_toArray, List.set_cons_zero, List.set_cons_succ]; try simp only [List.getElem_toArray, List.getElem_cons_succ, List.getElem_cons_zero])
              (refine wpAnyH_take (i := 21) (oi := ⟨_, _, _, _, _, _⟩) (v := ?tv66) rfl (by kernel_rfl) (by kernel_rfl) (by kernel_rfl) (fun _ _ _ h => h) (Or.inl ⟨by kernel_rfl, ?hy66⟩) hH ?rs66; (case hy66 => (intro wx hSw; (try dsimp only at hSw); go_simp; try with_reducible rfl)); try simp only [Act.put, List.setIfInBounds_toArray, List.set_cons_zero, List.set_cons_succ]; try simp only [List.getElem_toArray, List.getElem_cons_succ, List.getElem_cons_zero])
              refine wpAnyH_done (by kernel_rfl) ?_ _
              go_wp2_with fail
              go_meet
              exact ⟨rfl, hfin _ _ _ (fun k hk => ⟨.inl (hi22 k (hsub k hk)), Nat.lt_of_lt_of_le (hN1 k (hsub k hk)) mB.size⟩) PF, hmx m9⟩
            case g10 =>
              obtain ⟨NN26, P25, hs27, hi28, hEn⟩ : ∃ N2 : Nat → Prop, Pair N2 (wz3.alloc (.cells #[] 5)) (pv bd) (pv bu) d d ∧ (∀ k, N2 k → k < (wz3.alloc (.cells #[] 5)).heap.size) ∧ (∀ k, N1 k → N2 k) ∧ N2 wz3.heap.size := ⟨_, (Pair.new P5 hs7 (.cells #[] 5)).1, (Pair.new P5 hs7 (.cells #[] 5)).2.1, fun k hk => .inl (hi0' k hk), .inr rfl⟩
              have oE : Own (wz3.alloc (.cells #[] 5)) 5 (.slice (some ⟨wz3.heap.size, 0, none⟩) 0 0) [] := Own.empty wz3 _
              have hE4 : w4.heap.size ≤ wz3.heap.size := m4.size
              have m24 : Mod (fun k => ¬ N1 k) w4 (wz3.alloc (.cells #[] 5)) := m4.alloc _
              have hywz23 := Rw.ext_ hywz3 ((Mod.refl (fun _ => False) wz3).alloc (.cells #[] 5))
              go_simp
              (go_wp2_with fail; refine hK.out _ _ (hS m24) (fun hH => ?_); clear hK K; try simp only [Act.put, List.setIfInBounds_toArray, List.set_cons_zero, List.set_cons_succ]; try simp only [List.getElem_toArray, List.getElem_cons_succ, List.getElem_cons_zero])
              generalize (wz3.alloc (.cells #[] 5)) = wz23 at *
              generalize wz3.heap.size = hE at *
              refine wpAnyH_ready (rs := [8]) (by kernel_rfl) (by simp) ?_
              refine AllReadyH.cons rfl (fun K hK => ?_) AllReadyH.nil
              go_simp
              refine (Pair.left_ P25 hs27 (fun S hd hs => hsv hd hywz23 (hNb.ext (hmx m24)))).mono ?_
              rintro e wz29 ⟨rfl, P31, mc⟩
              have m30 := m24.then_ mc fun k _ hk hn => hk (hi28 k hn)
              have hs33 : ∀ k, NN26 k → k < wz29.heap.size := fun k hk => Nat.lt_of_lt_of_le (hs27 k hk) mc.size
              replace oE := Own.mod oE mc (fun k hk hn => hn (by rw [show k = hE from (Option.some.inj hk).symm]; exact hEn))
              clear mc
              (go_wp2_with fail; refine hK.out _ _ (hS m30) (fun hH => ?_); clear hK K; try simp only [Act.put, List.setIfInBounds_toArray, List.set_cons_zero, List.set_cons_succ]; try simp only [List.getElem_toArray, List.getElem_cons_succ, List.getElem_cons_zero])
              have PA := Pair.more (N' := fun k => NN26 k ∨ wz29.heap.size ≤ k) P31 fun k hk => hk
              refine wpAnyH_ready (rs := [15]) (by kernel_rfl) (by simp) ?_
              refine AllReadyH.cons rfl (fun K hK => ?_) AllReadyH.nil
              refine step_app 82 tyB oE (sA m30) (bv_one _) hn1 rfl rfl (.tmp 79) (.tmp 81) rfl rfl rfl ?_
              intro vA wA ka1 ka2 ka3
              rw [List.nil_append] at ka1
              have hoA : ∀ k, own (.slice (some ⟨hE, 0, none⟩) 0 0) k → k = hE := fun k hk => (Option.some.inj hk).symm
              have mA := m30.then_ ka2 fun k _ hk hn => by (have := hN1 k hn; have := hoA k hk; omega)
              have PB := Pair.mod PA ka2 fun k hk => .inl (by rw [hoA k hk]; exact hEn)
              have hfA : ∀ k, own vA k → NN26 k ∨ wz29.heap.size ≤ k := fun k hk => by (by_cases q : k < wz29.heap.size); (exact .inl (by rw [hoA k (ka3.sub q hk)]; exact hEn)); (exact .inr (by omega))
              have hfA4 : ∀ k, own vA k → ¬ N1 k := fun k hk hn => by (have h9 := hN1 k hn; have h8 : k < wz29.heap.size := Nat.lt_of_lt_of_le h9 m30.size; have := hoA k (ka3.sub h8 hk); omega)
              clear hoA
              replace hfA := Lib.hid hfA
              replace hfA4 := Lib.hid hfA4
              (refine hK.out _ _ (hS mA) (fun hH => ?_); clear hK K; try simp only [Act.put, List.setIfInBounds_toArray, List.set_cons_zero, List.set_cons_succ]; try simp only [List.getElem_toArray, List.getElem_cons_succ, List.getElem_cons_zero])
              refine wpAnyH_ready (rs := [18]) (by kernel_rfl) (by simp) ?_
              refine AllReadyH.cons rfl (fun K hK => ?_) AllReadyH.nil
              refine step_app 85 tyB ka1 (sB mA) (bv_one _) hn2 rfl rfl (.tmp 82) (.tmp 84) rfl rfl rfl ?_
              intro vB wB kb1 kb2 kb3
              rw [← List.map_append] at kb1
              have mB := mA.then_ kb2 fun k _ hk hn => hfA4.out k hk hn
              have PC := Pair.mod PB kb2 fun k hk => hfA.out k hk
              (refine hK.out _ _ (hS mB) (fun hH => ?_); clear hK K; try simp only [Act.put, List.setIfInBounds_toArray, List.set_cons_zero, List.set_cons_succ]; try simp only [List.getElem_toArray, List.getElem_cons_succ, List.getElem_cons_zero])
              have PD := Pair.less (N' := fun k => (NN26 k ∨ wz29.heap.size ≤ k) ∧ k < wB.heap.size) PC fun k hk => hk.1
              refine wpAnyH_ready (rs := [19]) (by kernel_rfl) (by simp) ?_
              refine AllReadyH.cons rfl (fun K hK => ?_) AllReadyH.nil
              go_simp
              refine (Pair.rightS PD (fun N9 h1 h2 hs => hrs hs (fun k hk => (h2 k hk).elim (fun h => h.2) id) kb1.sl (fun k hk => kb1.lt hk))).mono ?_
              rintro e wF ⟨rfl, PF, mF⟩
              have m9 := mB.then_ mF fun k _ hk hn => hk ⟨.inl (hi28 k hn), Nat.lt_of_lt_of_le (hN1 k hn) mB.size⟩
              (go_wp2_with fail; refine hK.out _ _ (hS m9) (fun hH => ?_); clear hK K; try simp only [Act.put, List.setIfInBounds_toArray, List.set_cons_zero, List.set_cons_succ]; try simp only [List.getElem_toArray, List.getElem_cons_succ, List.getElem_cons_zero])
              (refine wpAnyH_take (i := 20) (oi := ⟨_, _, _, _, _, _⟩) (v := ?tv67) rfl (by kernel_rfl) (by kernel_rfl) (by kernel_rfl) (fun _ _ _ h => h) (Or.inl ⟨by kernel_rfl, ?hy67⟩) hH ?rs67; (case hy67 => (intro wx hSw; (try dsimp only at hSw); go_simp; try with_reducible rfl)); try simp only [Act.put, List.setIfInBounds_toArray, List.set_cons_zero, List.set_cons_succ]; try simp only [List.getElem_toArray, List.getElem_cons_succ, List.getElem_cons_zero])
              (refine wpAnyH_take (i := 21) (oi := ⟨_, _, _, _, _, _⟩) (v := ?tv68) rfl (by kernel_rfl) (by kernel_rfl) (by kernel_rfl) (fun _ _ _ h => h) (Or.inl ⟨by kernel_rfl, ?hy68⟩) hH ?rs68; (case hy68 => (intro wx hSw; (try dsimp only at hSw); go_simp; try with_reducible rfl)); try simp only [Act.put, List.setIfInBounds_toArray, List.set_cons_zero, List.set_cons_succ]; try simp only [List.getElem_toArray, List.getElem_cons_succ, List.getElem_cons_zero])
              refine wpAnyH_done (by kernel_rfl) ?_ _
              go_wp2_with fail
              go_meet
              exact ⟨rfl, hfin _ _ _ (fun k hk => ⟨.inl (hi28 k (hsub k hk)), Nat.lt_of_lt_of_le (hN1 k (hsub k hk)) mB.size⟩) PF, hmx m9⟩
          case g2 =>
            obtain ⟨NN38, P37, hs39, hi40, hEn⟩ : ∃ N2 : Nat → Prop, Pair N2 (wD.alloc (.cells #[] 5)) (pv bd) (pv bu) d d ∧ (∀ k, N2 k → k < (wD.alloc (.cells #[] 5)).heap.size) ∧ (∀ k, N1 k → N2 k) ∧ N2 wD.heap.size := ⟨_, (Pair.new P0 hs0 (.cells #[] 5)).1, (Pair.new P0 hs0 (.cells #[] 5)).2.1, fun k hk => .inl (hi0' k hk), .inr rfl⟩
            have oE : Own (wD.alloc (.cells #[] 5)) 5 (.slice (some ⟨wD.heap.size, 0, none⟩) 0 0) [] := Own.empty wD _
            have hE4 : w4.heap.size ≤ wD.heap.size := p0.size
            have m36 : Mod (fun k => ¬ N1 k) w4 (wD.alloc (.cells #[] 5)) := p0.alloc _
            go_simp
            (go_wp2_with fail; refine hK.out _ _ (hS m36) (fun hH => ?_); clear hK K; try simp only [Act.put, List.setIfInBounds_toArray, List.set_cons_zero, List.set_cons_succ]; try simp only [List.getElem_toArray, List.getElem_cons_succ, List.getElem_cons_zero])
            generalize (wD.alloc (.cells #[] 5)) = wz35 at *
            generalize wD.heap.size = hE at *
            refine wpAnyH_ready (rs := [7]) (by kernel_rfl) (by simp) ?_
            refine AllReadyH.cons rfl (fun K hK => ?_) AllReadyH.nil
            have hywz41 := rows2 (w := wz35) (sA m36) (sB m36)
            have m42 : Mod (fun k => ¬ N1 k) w4 (wz35.alloc (.cells #[.slice Aa na ca, .slice Ab nb cb] 32)) := m36.alloc _
            have P43 := Pair.ext P37 ((Mod.refl (fun _ => False) wz35).alloc (.cells #[.slice Aa na ca, .slice Ab nb cb] 32))
            have hs45 : ∀ k, NN38 k → k < (wz35.alloc (.cells #[.slice Aa na ca, .slice Ab nb cb] 32)).heap.size := fun k hk => Nat.lt_of_lt_of_le (hs39 k hk) ((Mod.refl (fun _ => False) wz35).alloc (.cells #[.slice Aa na ca, .slice Ab nb cb] 32)).size
            replace oE := Own.alloc oE (.cells #[.slice Aa na ca, .slice Ab nb cb] 32)
            go_simp
            (go_wp2_with fail; refine hK.out _ _ (hS m42) (fun hH => ?_); clear hK K; try simp only [Act.put, List.setIfInBounds_toArray, List.set_cons_zero, List.set_cons_succ]; try simp only [List.getElem_toArray, List.getElem_cons_succ, List.getElem_cons_zero])
            generalize (wz35.alloc (.cells #[.slice Aa na ca, .slice Ab nb cb] 32)) = wz41 at *
            generalize wz35.heap.size = hR at *
            refine wpAnyH_ready (rs := [8]) (by kernel_rfl) (by simp) ?_
            refine AllReadyH.cons rfl (fun K hK => ?_) AllReadyH.nil
            go_simp
            refine (Pair.left_ P43 hs45 (fun S hd hs => hsv hd hywz41 (hNb.ext (hmx m42)))).mono ?_
            rintro e wz47 ⟨rfl, P49, mc⟩
            have m48 := m42.then_ mc fun k _ hk hn => hk (hi40 k hn)
            have hs51 : ∀ k, NN38 k → k < wz47.heap.size := fun k hk => Nat.lt_of_lt_of_le (hs45 k hk) mc.size
            replace oE := Own.mod oE mc (fun k hk hn => hn (by rw [show k = hE from (Option.some.inj hk).symm]; exact hEn))
            clear mc
            (go_wp2_with fail; refine hK.out _ _ (hS m48) (fun hH => ?_); clear hK K; try simp only [Act.put, List.setIfInBounds_toArray, List.set_cons_zero, List.set_cons_succ]; try simp only [List.getElem_toArray, List.getElem_cons_succ, List.getElem_cons_zero])
            have PA := Pair.more (N' := fun k => NN38 k ∨ wz47.heap.size ≤ k) P49 fun k hk => hk
            refine wpAnyH_ready (rs := [15]) (by kernel_rfl) (by simp) ?_
            refine AllReadyH.cons rfl (fun K hK => ?_) AllReadyH.nil
            refine step_app 82 tyB oE (sA m48) (bv_one _) hn1 rfl rfl (.tmp 79) (.tmp 81) rfl rfl rfl ?_
            intro vA wA ka1 ka2 ka3
            rw [List.nil_append] at ka1
            have hoA : ∀ k, own (.slice (some ⟨hE, 0, none⟩) 0 0) k → k = hE := fun k hk => (Option.some.inj hk).symm
            have mA := m48.then_ ka2 fun k _ hk hn => by (have := hN1 k hn; have := hoA k hk; omega)
            have PB := Pair.mod PA ka2 fun k hk => .inl (by rw [hoA k hk]; exact hEn)
            have hfA : ∀ k, own vA k → NN38 k ∨ wz47.heap.size ≤ k := fun k hk => by (by_cases q : k < wz47.heap.size); (exact .inl (by rw [hoA k (ka3.sub q hk)]; exact hEn)); (exact .inr (by omega))
            have hfA4 : ∀ k, own vA k → ¬ N1 k := fun k hk hn => by (have h9 := hN1 k hn; have h8 : k < wz47.heap.size := Nat.lt_of_lt_of_le h9 m48.size; have := hoA k (ka3.sub h8 hk); omega)
            clear hoA
            replace hfA := Lib.hid hfA
            replace hfA4 := Lib.hid hfA4
            (refine hK.out _ _ (hS mA) (fun hH => ?_); clear hK K; try simp only [Act.put, List.setIfInBounds_toArray, List.set_cons_zero, List.set_cons_succ]; try simp only [List.getElem_toArray, List.getElem_cons_succ, List.getElem_cons_zero])
            refine wpAnyH_ready (rs := [18]) (by kernel_rfl) (by simp) ?_
            refine AllReadyH.cons rfl (fun K hK => ?_) AllReadyH.nil
            refine step_app 85 tyB ka1 (sB mA) (bv_one _) hn2 rfl rfl (.tmp 82) (.tmp 84) rfl rfl rfl ?_
            intro vB wB kb1 kb2 kb3
            rw [← List.map_append] at kb1
            have mB := mA.then_ kb2 fun k _ hk hn => hfA4.out k hk hn
            have PC := Pair.mod PB kb2 fun k hk => hfA.out k hk
            (refine hK.out _ _ (hS mB) (fun hH => ?_); clear hK K; try simp only [Act.put, List.setIfInBounds_toArray, List.set_cons_zero, List.set_cons_succ]; try simp only [List.getElem_toArray, List.getElem_cons_succ, List.getElem_cons_zero])
            have PD := Pair.less (N' := fun k => (NN38 k ∨ wz47.heap.size ≤ k) ∧ k < wB.heap.size) PC fun k hk => hk.1
            refine wpAnyH_ready (rs := [19]) (by kernel_rfl) (by simp) ?_
            refine AllReadyH.cons rfl (fun K hK => ?_) AllReadyH.nil
            go_simp
            refine (Pair.rightS PD (fun N9 h1 h2 hs => hrs hs (fun k hk => (h2 k hk).elim (fun h => h.2) id) kb1.sl (fun k hk => kb1.lt hk))).mono ?_
            rintro e wF ⟨rfl, PF, mF⟩
            have m9 := mB.then_ mF fun k _ hk hn => hk ⟨.inl (hi40 k hn), Nat.lt_of_lt_of_le (hN1 k hn) mB.size⟩
            (go_wp2_with fail; refine hK.out _ _ (hS m9) (fun hH => ?_); clear hK K; try simp only [Act.put, List.setIfInBounds_toArray, List.set_cons_zero, List.set_cons_succ]; try simp only [List.getElem_toArray, List.getElem_cons_succ, List.getElem_cons_zero])
            (refine wpAnyH_take (i := 20) (oi := ⟨_, _, _, _, _, _⟩) (v := ?tv69) rfl (by kernel_rfl) (by kernel_rfl) (by kernel_rfl) (fun _ _ _ h => h) (Or.inl ⟨by kernel_rfl, ?hy69⟩) hH ?rs69; (case hy69 => (intro wx hSw; (try dsimp only at hSw); go_simp; try with_reducible rfl)); try simp only [Act.put, List.setIfInBounds_toArray, List.set_cons_zero, List.set_cons_succ]; try simp only [List.getElem_toArray, List.getElem_cons_succ, List.getElem_cons_zero])
            (refine wpAnyH_take (i := 21) (oi := ⟨_, _, _, _, _, _⟩) (v := ?tv70) rfl (by kernel_rfl) (by kernel_rfl) (by kernel_rfl) (fun _ _ _ h => h) (Or.inl ⟨by kernel_rfl, ?hy70⟩) hH ?rs70; (case hy70 => (intro wx hSw; (try dsimp only at hSw); go_simp; try with_reducible rfl)); try simp only [Act.put, List.setIfInBounds_toArray, List.set_cons_zero, List.set_cons_succ]; try simp only [List.getElem_toArray, List.getElem_cons_succ, List.getElem_cons_zero])
            refine wpAnyH_done (by kernel_rfl) ?_ _
            go_wp2_with fail
            go_meet
            exact ⟨rfl, hfin _ _ _ (fun k hk => ⟨.inl (hi40 k (hsub k hk)), Nat.lt_of_lt_of_le (hN1 k (hsub k hk)) mB.size⟩) PF, hmx m9⟩
        have hb1' : (kind == 1) = false := by simpa using k1
        by_cases k2 : kind = 2
        · subst k2
          have b2 : w4.cell? ⟨wb, 2, none⟩ = some (sv nm) := bX.cell 2
          obtain ⟨S4, T4, hd, hr, hS, hT, hST⟩ := id hP
          have hc1 := load_any hd nm (by omega) (hNb.ext hxw)
          have hlen := fun b hb => hd.len (x := nm) (b := b) hb
          go_wp2_with fail
          refine hc1.mono ?_
          rintro e w5 ⟨u1, rfl, o1, f1, x5⟩
          have hc2 := rload_any (N := N1) (show Sole N1 w5 (pv bu) d from ⟨T4, hr.ext x5, fun k hk => ⟨by have := (hT k hk).1; have := x5.size; omega, (hT k hk).2⟩⟩) nm hlen
          have b3 : w5.cell? ⟨wb, 2, none⟩ = some (sv nm) := (hbc (x5.mono fun _ _ h => h.elim)).cell 2
          clear hc1
          go_wp2_with fail
          refine hc2.mono ?_
          rintro e w6 ⟨u2, rfl, o2, f2, x6⟩
          have hc3 := same_any (o1.mod x6 fun _ _ h => h).sl o2.sl
          rw [decide_eq_true rfl] at hc3
          have y6 := ext_trans x5 x6
          generalize (loadD d nm).2 = m at *
          clear hc2
          go_wp2_with fail
          refine hc3.mono ?_
          rintro e w7 ⟨rfl, kk, rfl⟩
          have y7 : Ext w4 (w6.drewN kk) := y6.drewN kk
          clear hc3
          generalize w6.drewN kk = w7 at *
          go_wp2_with fail
          go_meet
          exact ⟨rfl, hfin _ _ _ hsub (hP.ext y7), ext_trans hxw y7⟩
        have hb2' : (kind == 2) = false := by simpa using k2
        by_cases k3 : kind = 3
        · subst k3
          have q0 : Ext w4 w4.drew := (Mod.refl _ w4).drew
          have P2 := hP.ext q0
          have ss4 : Ts w4.drew N1 (.slice As ns cs) s := (Sl.mono (T := N1) ss fun k _ hk => hsub k hk).mod (ext_trans x4 q0) fun _ _ _ h => h
          have hnl : ∀ x ∈ nms d.L, x.length ≤ 1000000 := fun x hx => by obtain ⟨S4, T4, hd, _⟩ := id hP; have := (hd.name_len4 hx).1; omega
          have hc1 := P2.left_ (hNx (q0.mono fun _ _ h => h.elim)) (fun S hd hs => clear_any hd nm ss4 (by omega))
          have hS : ∀ {wx : World}, Mod (fun k => ¬ N1 k) w4 wx → wx.cell? ⟨wb, 2, none⟩ = some (sv nm) ∧ wx.cell? ⟨wb, 5, none⟩ = some (.slice As ns cs) := fun {wx} m => ⟨(hbc m).cell 2, (hbc m).cell 5⟩
          have p0 : Mod (fun k => ¬ N1 k) w4 w4.drew := (Mod.refl _ w4).drew
          have hss : ∀ {wx : World}, Mod (fun k => ¬ N1 k) w4.drew wx → Ts wx N1 (.slice As ns cs) s := fun m => ss4.mod m fun k _ hk hn => hn hk
          have hr := fun (w3 : World) (P3 : Pair N1 w3 (pv bd) (pv bu) (clearD d nm s).1 d) (p3 : Mod (fun k => ¬ N1 k) w4 w3) (m3 : Mod (fun k => ¬ N1 k) w4.drew w3) => P3.rightS (fun N' h1 h2 hs => rclear_any hs (fun k hk => (h2 k hk).elim (hNx p3 k) id) nm (Sl.mono (T := N') (hss m3) fun k _ hk => h1 k hk) (by omega) (by omega) hnl)
          generalize (clearD d nm s).2 = m at *
          go_upto_region 20 with fail
          go_region_held3 (fun wx => wx.cell? ⟨wb, 2, none⟩ = some (sv nm) ∧ wx.cell? ⟨wb, 5, none⟩ = some (.slice As ns cs)) (first | exact hS p0 | exact q3 | exact q4)
            (first
              | (go_at_call 13; refine hc1.mono ?_; rintro e w5 ⟨rfl, P5, m5⟩; have p3 := p0.then_ m5 fun k _ hk => hk; have q3 := hS p3; have hc2 := hr w5 P5 p3 m5)
              | (go_at_call 14; refine hc2.mono ?_; rintro e w6 ⟨rfl, P6, m6⟩; have p4 := p3.then_ m6 fun k _ hk => hk; have q4 := hS p4))
          go_wp2_with fail
          go_meet
          exact ⟨rfl, hfin _ _ _ hsub P6, hmx p4⟩
        have hb3' : (kind == 3) = false := by simpa using k3
        by_cases k4 : kind = 4
        · subst k4
          have b1 : w4.cell? ⟨wb, 1, none⟩ = some (.int .i64 n) := bX.cell 1
          have hc1 := hP.left_ hN1 (fun S hd hs => crash_any hd n hn.2)
          go_wp2_with fail
          refine hc1.mono ?_
          rintro e w5 ⟨rfl, P5, m5⟩
          have hc2 := P5.right_ (hNx m5) (fun T hd _ => rcrash_any hd n hn.2)
          have b3 : w5.cell? ⟨wb, 1, none⟩ = some (.int .i64 n) := (hbc m5).cell 1
          clear hc1
          go_wp2_with fail
          refine hc2.mono ?_
          rintro e w6 ⟨rfl, P6, m6⟩
          clear hc2
          go_wp2_with fail
          go_meet
          exact ⟨rfl, hfin _ _ _ hsub P6, hmx (m5.then_ m6 fun _ _ h => h)⟩
        have hb4' : (kind == 4) = false := by simpa using k4
        by_cases k5 : kind = 5
        · subst k5
          have b1 : w4.cell? ⟨wb, 1, none⟩ = some (.int .i64 n) := bX.cell 1
          have hc1 := hP.left_ hN1 (fun S hd hs => fuse_dk hd n hn.2)
          go_wp2_with fail
          refine hc1.mono ?_
          rintro e w5 ⟨rfl, P5, m5⟩
          have hc2 := P5.right_ (hNx m5) (fun T hd _ => rfuse_any hd n hn.2)
          have b3 : w5.cell? ⟨wb, 1, none⟩ = some (.int .i64 n) := (hbc m5).cell 1
          clear hc1
          go_wp2_with fail
          refine hc2.mono ?_
          rintro e w6 ⟨rfl, P6, m6⟩
          clear hc2
          go_wp2_with fail
          go_meet
          exact ⟨rfl, hfin _ _ _ hsub P6, hmx (m5.then_ m6 fun _ _ h => h)⟩
        have hb5' : (kind == 5) = false := by simpa using k5
        by_cases k6 : kind = 6
        · subst k6
          have q0 : Ext w4 w4.drew := (Mod.refl _ w4).drew
          have sa4 : Bs w4.drew N1 (.slice Aa na ca) a := (sa.mono (T := N1) fun k _ hk => hsub k hk).mod (ext_trans x4 q0) fun _ _ _ h => h
          obtain ⟨P2, hN2, q2⟩ := (hP.ext q0).new (hNx (q0.mono fun _ _ h => h.elim)) (.cells #[.slice Aa na ca] 32)
          have hrow := Rw.one 32 sa4
          have hc1 := P2.left_ hN2 (fun S hd hs => append_any hd nm hrow (fun k hk hS => (hs k hS).2 hk) (by simp))
          have hS : ∀ {wx : World}, Mod (fun k => ¬ N1 k) w4 wx → wx.cell? ⟨wb, 2, none⟩ = some (sv nm) ∧ wx.cell? ⟨wb, 3, none⟩ = some (.slice Aa na ca) := fun {wx} m => ⟨(hbc m).cell 2, (hbc m).cell 3⟩
          have p0 : Mod (fun k => ¬ N1 k) w4 w4.drew := (Mod.refl _ w4).drew
          have p2 : Mod (fun k => ¬ N1 k) w4 (w4.drew.alloc (.cells #[.slice Aa na ca] 32)) := (ext_trans q0 q2).mono fun _ _ h => h.elim
          have z2 := hS p2
          have hsa : ∀ {wx : World}, Mod (fun k => ¬ N1 k) w4.drew wx → Bs wx N1 (.slice Aa na ca) a := fun m => sa4.mod m fun k _ hk hn => hn hk
          have hr := fun (w3 : World) (P3 : Pair (fun k => N1 k ∨ k = w4.drew.heap.size) w3 (pv bd) (pv bu) (appendD d nm [a]).1 d) (hN3 : ∀ k, (N1 k ∨ k = w4.drew.heap.size) → k < w3.heap.size) (m : Mod (fun k => ¬ N1 k) w4.drew w3) => P3.right_ hN3 (fun T hd hs => rappend_any hd nm (hsa m) (by omega) (fun k hk hS => (hs k hS).2 (.inl hk)))
          have q2m : Mod (fun k => ¬ N1 k) w4.drew (w4.drew.alloc (.cells #[.slice Aa na ca] 32)) := q2.mono fun _ _ h => h.elim
          generalize (appendD d nm [a]).2 = m at *
          go_upto_region 28 with fail
          go_region_held3 (fun wx => wx.cell? ⟨wb, 2, none⟩ = some (sv nm) ∧ wx.cell? ⟨wb, 3, none⟩ = some (.slice Aa na ca)) (first | exact hS p0 | exact z2 | exact q3 | exact q4)
            (first
              | (go_at_call 19; refine hc1.mono ?_; rintro e w5 ⟨rfl, P5, m5⟩; have m5' := m5.mono (G := fun k => ¬ N1 k) fun k _ hk hn => hk (.inl hn); have p3 := p2.then_ m5' fun k _ hk => hk; have q3 := hS p3; have hc2 := hr w5 P5 (fun k hk => Nat.lt_of_lt_of_le (hN2 k hk) m5.size) (q2m.then_ m5' fun k _ hk => hk))
              | (go_at_call 20; refine hc2.mono ?_; rintro e w6 ⟨rfl, P6, m6⟩; have p4 := p3.then_ m6 fun k _ hk hn => hk (.inl hn); have q4 := hS p4))
          go_wp2_with fail
          go_meet
          exact ⟨rfl, hfin _ _ _ (fun k hk => .inl (hsub k hk)) P6, hmx p4⟩
        have hb6' : (kind == 6) = false := by simpa using k6
        go_wp2_with fail
        go_meet
        exact ⟨rfl, hfin _ _ _ hsub hP, hxw⟩
      case rest =>
        obtain ⟨rfl, ⟨d1, P4⟩, xw⟩ := hcut
        clear hfin hmx hbc hNx hP hN1 hsub hb1 bX x4 hxw sa sb ss hx
        obtain ⟨S4, T4, hd, hr, hS, hT, hST⟩ := id P4
        have hc1 := rlist_any hr
        go_wp2_with fail
        refine hc1.mono ?_
        rintro e w5 ⟨u1, rfl, o1, f1, x5⟩
        have hd5 := hd.ext x5
        have hr5 := hr.ext x5
        have hc2 := list_any hd5
        clear hc1
        go_wp2_with fail
        refine hc2.mono ?_
        rintro e w6 ⟨u2, rfl, o2, f2, x6⟩
        have hd6 := hd5.ext x6
        have hr6 := hr5.ext x6
        have o1' := Own.mod o1 x6 fun _ _ h => h
        have hc3 := texts3_any o2.sl o1'.sl
        rw [decide_eq_true rfl] at hc3
        clear hc2
        go_wp2_with fail
        refine hc3.mono ?_
        rintro e w7 ⟨rfl, x7⟩
        have hd7 := hd6.ext x7
        have hr7 := hr6.ext x7
        have o7 := Own.mod o1' x7 fun _ _ h => h
        have y7 := ext_trans x5 (ext_trans x6 x7)
        have P7 := P4.ext y7
        have xw7 := ext_trans xw y7
        clear hc3
        have ht : Ts w7 _ u1 (nms d1.L) := o7.sl
        obtain ⟨A1, cc1, hu, g1, g2, g3, g4⟩ := ht.open_
        subst hu
        have hnl := fun x hx => hd7.name_len4 (x := x) hx
        clear hd hd5 hd6 hr hr5 hr6 o1 o1' o2 o7 x5 x6 x7 ht f1 f2 hS hT hST P4 xw y7
        generalize nms d1.L = M at *
        go_wp2_with fail
        go_loopw [17] (fun i wr => ∃ k : Nat, k ≤ M.length ∧ i = .int .i64 k ∧ Ext w7 wr) (fun i _ => M.length - (intOf i).toNat)
        case atStart => exact ⟨0, Nat.zero_le _, rfl, Mod.refl _ _⟩
        case round =>
          obtain ⟨k', hk', rfl, hx'⟩ := hrel
          by_cases hlt' : k' < M.length
          case neg =>
            have hbl' : decide ((k' : Int) < (M.length : Int)) = false := dfalse (by omega)
            clear hd7 hr7 hnl g4
            go_wp2_with fail
            exact ⟨⟨k + 1, d1, by omega, by go_num, P7.ext hx', ext_trans xw7 hx'⟩, by simp [intOf] <;> omega⟩
          have hbl' : decide ((k' : Int) < (M.length : Int)) = true := dtrue (by omega)
          obtain ⟨ad', hA', hS', c0'⟩ := (Cells.mod g4 hx' (fun _ _ _ h => h)).at_ hlt'
          subst hA'
          have hi0' : (0 : Int) ≤ (k' : Int) := by omega
          have hi1' : (k' : Int) < (M.length : Int) := by omega
          obtain ⟨n1, n2⟩ := hnl _ (List.getElem_mem hlt')
          have hdr := hd7.ext hx'
          have hrr := hr7.ext hx'
          have cellx : ∀ {wx : World}, Ext wr wx → wx.cell? (ad'.add k') = some (sv M[k']) := fun q => by
            obtain ⟨ad2, hA2, _, c'⟩ := (Cells.mod g4 (ext_trans hx' q) (fun _ _ _ h => h)).at_ hlt'
            cases hA2
            exact c'
          clear hd7 hr7 hnl g4 P7
          generalize M[k'] = x at *
          have hc1 := read_any hdr x (by omega)
          rw [n2] at hc1
          go_wp2_with fail
          refine hc1.mono ?_
          rintro e w8 ⟨v1, rfl, o1, f1, x8⟩
          have c1' := cellx x8
          have hc2 := rread_any (hrr.ext x8) x
          rw [n2] at hc2
          clear hc1
          go_wp2_with fail
          refine hc2.mono ?_
          rintro e w9 ⟨v2, rfl, o2, f2, x9⟩
          have hc3 := same_any (o1.mod x9 fun _ _ h => h).sl o2.sl
          rw [decide_eq_true rfl] at hc3
          clear hc2
          go_wp2_with fail
          refine hc3.mono ?_
          rintro e w10 ⟨rfl, kk, rfl⟩
          have x10 : Ext w7 (w9.drewN kk) := (ext_trans hx' (ext_trans x8 x9)).drewN kk
          clear hc3
          generalize w9.drewN kk = w10 at *
          go_wp2_with fail
          exact ⟨⟨k' + 1, by omega, by go_num, x10⟩, by simp [intOf] <;> omega⟩
end
end Go.Proofs.YtblfhonfjljndaaDoor
