/- disk: DiskRoom. -/
import Derived.Test.YtagchhcpmibelaaDkS
import Derived.Test.YtagchhcpmibelaaRegA
namespace Go.Proofs.Ytagchhcpmibelaa
open Go.RowKit Go.Maps Go.WideMaps
set_option maxRecDepth 100000

theorem app_fits {d : Ds} {x r : List UInt8} (hb : begD d [x] = 0) (hr : Rise d.L) (hfew : d.L.length < 4096) (hf : sumB d.L + r.length ≤ d.room) (hfu : d.fu = false) :
    ∃ d', appendD d x [r] = (d', 0) ∧ d'.room = d.room ∧ d'.fu = false ∧ readD d' x = some ((readD d x).getD [] ++ r) ∧ sumB d'.L = sumB d.L + r.length ∧ d'.L.length ≤ d.L.length + 1 := by
  have ht : tot [r] = r.length := by simp [tot]
  unfold appendD
  rw [if_neg (by rw [hb]; simp), if_neg (by rw [ht]; exact fun h => h hf)]
  cases hx : getF d.L x with
  | none =>
    simp only
    rw [if_neg (by omega)]
    have hs := sumB_putF (f := ⟨x, [r].flatten, 0⟩) hr
    rw [show (⟨x, [r].flatten, 0⟩ : Fi).name = x from rfl, hx] at hs
    simp only [lenB, one] at hs
    refine ⟨_, rfl, rfl, by simp [doneD, hfu], ?_, ?_, ?_⟩
    · have := getF_put_same hr ⟨x, [r].flatten, 0⟩
      show (getF (putF d.L ⟨x, [r].flatten, 0⟩) x).map Fi.b = _
      rw [show getF (putF d.L ⟨x, [r].flatten, 0⟩) x = some ⟨x, [r].flatten, 0⟩ from this, readD, hx]
      simp
    · show sumB (putF d.L ⟨x, [r].flatten, 0⟩) = _
      have : ([r].flatten).length = r.length := by simp
      omega
    · show (putF d.L ⟨x, [r].flatten, 0⟩).length ≤ _
      omega
  | some f =>
    simp only
    obtain rfl := getF_name hx
    have hs := sumB_putF (f := ⟨f.name, f.b ++ [r].flatten, f.last⟩) hr
    rw [show (⟨f.name, f.b ++ [r].flatten, f.last⟩ : Fi).name = f.name from rfl, hx] at hs
    simp only [lenB, one] at hs
    refine ⟨_, rfl, rfl, by simp [doneD, hfu], ?_, ?_, ?_⟩
    · have := getF_put_same hr ⟨f.name, f.b ++ [r].flatten, f.last⟩
      show (getF (putF d.L ⟨f.name, f.b ++ [r].flatten, f.last⟩) f.name).map Fi.b = _
      rw [show getF (putF d.L ⟨f.name, f.b ++ [r].flatten, f.last⟩) f.name = some ⟨f.name, f.b ++ [r].flatten, f.last⟩ from this, readD, hx]
      simp
    · show sumB (putF d.L ⟨f.name, f.b ++ [r].flatten, f.last⟩) = _
      have : (f.b ++ [r].flatten).length = f.b.length + r.length := by simp
      omega
    · show (putF d.L ⟨f.name, f.b ++ [r].flatten, f.last⟩).length ≤ _
      omega
theorem app_no {d : Ds} {x r : List UInt8} (hb : begD d [x] = 0) (hf : ¬ sumB d.L + r.length ≤ d.room) : appendD d x [r] = (d, 6) := by
  have ht : tot [r] = r.length := by simp [tot]
  unfold appendD
  rw [if_neg (by rw [hb]; simp), if_pos (by rw [ht]; exact hf)]
theorem Dk.facts {S : Nat → Prop} {w : World} {v : Value} {d : Ds} (h : Dk S w v d) : Rise d.L ∧ sumB d.L ≤ d.room ∧ d.room ≤ 1073741824 := by
  obtain ⟨bd, bm, D, G, rfl, h⟩ := h
  exact ⟨h.rise, h.room, h.most⟩
theorem nm3 (k : Nat) : ∃ b : UInt8, (b.toNat : Int) = (k : Int) % 3 := ⟨UInt8.ofNat (k % 3), by
  rw [UInt8.toNat_ofNat_of_lt' (by show k % 3 < 256; omega)]
  omega⟩
theorem begD_ok {d : Ds} {a b : UInt8} (h : d.fu = false) : begD d [[a, b]] = 0 := by
  unfold begD
  rw [if_neg (by rw [h]; simp)]
  rfl
theorem used_law {S : Nat → Prop} {w : World} {v : Value} {d : Ds} (h : Dk S w v d) : Calls Try.prog 30 #[v] w fun e w' => e = .returned (ev (sumB d.L)) ∧ w' = w := by
  obtain ⟨bd, bm, D, G, rfl, h⟩ := h
  exact used_any h
section
variable {P : Program} {w : World} {t e : TypeId} {z : Value} {bytes : Nat} {ops : Array Oper} {o : Oper} {a : Act} {Q : Exit → Act → World → Prop} {S : Nat → Prop}
theorem step_appG {K : Act → World → Prop} {E : Prop} (d : Tmp) (hT : SliceTy P t e z bytes) {v y : Value} {xs news : List Value} (hown : Own w e v xs) (hr : Sl w S y news) (h1 : ∀ u ∈ news, u.oneCell' = true) (hn : (xs.length + news.length) * bytes ≤ 140737488355328)
    (hw : Region.wanted o (yielded ops a.tmps) = true) (hd : o.dst = some d) (s yy : Operand) (ho : o.op = .call { callee := .builtin .append, args := #[s, yy], argTypes := #[t, t] }) (hs : a.eval s = v) (hy : a.eval yy = y)
    (h : ∀ v' w', Own w' e v' (xs ++ news) → Mod (own v) w w' → Next w.heap.size v v' → K (a.put o.dst v') w') : if Region.wanted o (yielded ops a.tmps) = true then Oper.wp P o a w K Q else E := by
  rw [if_pos hw]
  obtain ⟨v', w', hrun, h2, h3, h4⟩ := run_app (P := P) hT o.type hown hr h1 hn
  unfold Oper.wp execOp
  simp only [ho, resolve, invoke, builtin, Sem.run_bind, Sem.run_pure, Result.andThen_ok, List.map_toArray, List.map_cons, List.map_nil, hs, hy, hrun]
  simp only [Oper.upon, hd]
  have := h v' w' h2 h3 h4
  rw [hd] at this
  exact this
end
theorem same_app {w5 wx : World} {u2 vx : Value} {X r : List UInt8} (o2 : Own w5 5 u2 (((some (X ++ r)).getD []).map bv)) (h : Ext w5 wx) (hk : Own wx 5 vx (([] ++ X.map bv) ++ r.map bv)) :
    Calls Try.prog 24 #[u2, vx] wx fun e w' => e = .returned (.bool true) ∧ ∃ k, w' = wx.drewN k := by
  rw [List.nil_append, ← List.map_append] at hk
  have o3 : Own wx 5 u2 ((X ++ r).map bv) := Own.mod o2 h (fun _ _ h => h)
  have := same_any o3.sl hk.sl
  rw [dtrue rfl] at this
  exact this
set_option maxHeartbeats 16000000 in
theorem room_any {w : World} {v : Value} {P : Tx} {n : Int} (hv0 : Rw w (fun _ => True) v P) (hz : ∀ l ∈ P, l.length ≤ 140737488351232) (hz2 : P.length * 24 ≤ 140737488351232) (hn : -9223372036854775808 ≤ n ∧ n ≤ 9223372036854775807) :
    Calls Try.prog 7 #[.int .i64 n, v] w fun e w' => e = .returned (.bool true) ∧ Ext w w' := by
  obtain ⟨A, c, vs, rfl, p1, p2, p3, p0, p5, p6⟩ := hv0.old.open_
  clear hv0
  go_enter Try.func7, Try.ntmps7
  go_wp2_with fail
  go_loop [5, 6] (fun q i => ∃ (j m : Nat), j ≤ P.length ∧ i = .int .i64 j ∧ q = .int .i64 m ∧ Hid (m = j + tot (P.take j)) ∧ m ≤ 140737488360000) (fun _ i => P.length - (intOf i).toNat)
  case atStart => exact ⟨0, 0, Nat.zero_le _, rfl, rfl, Lib.hid (by simp [tot]), by omega⟩
  case round =>
    obtain ⟨j, m, hj, rfl, rfl, hm, hmb⟩ := hrel
    by_cases hgo : j < P.length ∧ m ≤ 8000
    · obtain ⟨hlt, hm8⟩ := hgo
      have hbl : decide ((j : Int) < (P.length : Int)) = true := dtrue (by omega)
      have hb2 : decide ((m : Int) ≤ 8000) = true := dtrue (by omega)
      obtain ⟨ad, y, hA, hS, hc, hB⟩ := row_at p0 p5 p6 hlt
      subst hA
      obtain ⟨B, cc, rfl, j1, j2, j3, j4⟩ := hB.open_
      have hi0 : (0 : Int) ≤ (j : Int) := by omega
      have hi1 : (j : Int) < (P.length : Int) := by omega
      have hsn := tot_snoc P j hlt
      have hzl := hz _ (List.getElem_mem hlt)
      have hst : Hid (m + 1 + P[j].length = (j + 1) + tot (P.take (j + 1))) := Lib.hid (by have := hm.out; simp only [tot] at *; omega)
      clear hsn hm j4 p5 p6
      generalize P[j].length = len at *
      go_wp2_with fail
      exact ⟨⟨j + 1, m + 1 + len, by omega, by go_num, by congr 1, hst, by omega⟩, by simp [intOf] <;> omega⟩
    have hstop : m ≤ 8000 → j = P.length := fun h => by
      rcases Nat.lt_or_ge j P.length with h2 | h2
      · exact absurd ⟨h2, h⟩ hgo
      · omega
    have hout : (j < P.length ∧ 8000 < m) ∨ j = P.length := by
      by_cases h : j = P.length
      · exact .inr h
      · exact .inl ⟨by omega, by
          rcases Nat.lt_or_ge 8000 m with h3 | h3
          · exact h3
          · exact absurd (hstop h3) h⟩
    by_cases hbig : 8000 < m
    · have hb3 : decide ((8000 : Int) < (m : Int)) = true := dtrue (by omega)
      clear hm hgo hstop
      rcases hout with ⟨h1, h2⟩ | h1
      · have hbl : decide ((j : Int) < (P.length : Int)) = true := dtrue (by omega)
        have hb2 : decide ((m : Int) ≤ 8000) = false := dfalse (by omega)
        go_wp2_with fail
        refine known3_any.mono ?_
        rintro e w1 ⟨rfl, x1⟩
        go_wp2_with fail
        go_ret
        exact ⟨rfl, x1⟩
      · have hbl : decide ((j : Int) < (P.length : Int)) = false := dfalse (by omega)
        go_wp2_with fail
        refine known3_any.mono ?_
        rintro e w1 ⟨rfl, x1⟩
        go_wp2_with fail
        go_ret
        exact ⟨rfl, x1⟩
    have hjl := hstop (by omega)
    subst hjl
    have htot : P.length + tot P ≤ 8000 := by have := hm.out; rw [List.take_length] at this; omega
    have hb3 : decide ((8000 : Int) < (m : Int)) = false := dfalse (by omega)
    have hbl : decide ((P.length : Int) < (P.length : Int)) = false := dfalse (by omega)
    clear hm hgo hstop hout hbig hmb hj
    by_cases hn0 : n < 0
    · have hb4 : decide (n < 0) = true := dtrue hn0
      go_wp2_with fail
      refine known3_any.mono ?_
      rintro e w1 ⟨rfl, x1⟩
      go_wp2_with fail
      go_ret
      exact ⟨rfl, x1⟩
    have hb4 : decide (n < 0) = false := dfalse hn0
    by_cases hn1 : 5000 < n
    · have hb5 : decide (5000 < n) = true := dtrue hn1
      go_wp2_with fail
      refine known3_any.mono ?_
      rintro e w1 ⟨rfl, x1⟩
      go_wp2_with fail
      go_ret
      exact ⟨rfl, x1⟩
    have hb5 : decide (5000 < n) = false := dfalse hn1
    by_cases hn2 : 60 < P.length
    · have hb6 : decide ((60 : Int) < (P.length : Int)) = true := dtrue (by omega)
      go_wp2_with fail
      refine known3_any.mono ?_
      rintro e w1 ⟨rfl, x1⟩
      go_wp2_with fail
      go_ret
      exact ⟨rfl, x1⟩
    have hb6 : decide ((60 : Int) < (P.length : Int)) = false := dfalse (by omega)
    go_wp2_with fail
    refine (new_law n (by omega) (by omega)).mono ?_
    rintro e w1 ⟨bd, rfl, S1, hd1, hin1, x1⟩
    have hnew : (newD n).room = n.toNat ∧ (newD n).fu = false ∧ (newD n).L.length = 0 := ⟨rfl, rfl, rfl⟩
    go_wp2_with fail
    go_loopw [9] (fun i wr => ∃ (k : Nat) (S : Nat → Prop) (d : Ds), k ≤ P.length ∧ i = .int .i64 k ∧ Dk S wr (pv bd) d ∧ In w.heap.size wr S ∧ Hid (d.room = n.toNat) ∧ d.fu = false ∧ d.L.length ≤ k ∧ Ext w wr) (fun i _ => P.length - (intOf i).toNat)
    case atStart => exact ⟨0, S1, newD n, Nat.zero_le _, rfl, hd1, hin1, Lib.hid rfl, rfl, Nat.le_refl _, x1⟩
    case round =>
      clear hd1 hin1 x1 hnew
      obtain ⟨k, S, d, hk, rfl, hd, hin, hrm, hfu, hdl, hx⟩ := hrel
      by_cases hlt : k < P.length
      case neg =>
        have hbl2 : decide ((k : Int) < (P.length : Int)) = false := dfalse (by omega)
        clear hd hin hrm hfu
        go_wp2_with fail
        refine known3_any.mono ?_
        rintro e w6 ⟨rfl, x6⟩
        go_wp2_with fail
        go_ret
        exact ⟨rfl, ext_trans hx x6⟩
      have hbl2 : decide ((k : Int) < (P.length : Int)) = true := dtrue (by omega)
      obtain ⟨ad, y, hA, hS, hc0, hB⟩ := row_at p0 p5 p6 hlt
      obtain ⟨B, cc, rfl, j1, j2, j3, j4⟩ := hB.open_
      subst hA
      have hcx : ∀ wx, Ext w wx → wx.cell? (ad.add k) = some (.slice B P[k].length cc) := fun wx h => (h.cell (lt_of_cell hc0) (fun h => h)).trans hc0
      have hi0 : (0 : Int) ≤ (k : Int) := by omega
      have hi1 : (k : Int) < (P.length : Int) := by omega
      have hzl := hz _ (List.getElem_mem hlt)
      replace hcx := Lib.hid hcx
      clear hc0 p5 p6 hz j4 p0
      obtain ⟨b, hb⟩ := nm3 k
      have xa : Ext wr (wr.alloc (.cells #[.int .u8 102, .int .u8 ((k : Int) % 3)] 5)) := (Mod.refl _ _).alloc _
      have cv := run_conv (P := Try.prog) Try.underlying32 Try.underlying5 Try.underlying9 (Bs.lit wr 5 [102, b] (by simp [maxLen]))
      simp only [bv, List.map_cons, List.map_nil, List.length_cons, List.length_nil, hb, Nat.zero_add, Nat.reduceAdd, show ((102 : UInt8).toNat : Int) = 102 from rfl] at cv
      have hba := begD_ok (d := d) (a := 102) (b := b) hfu
      obtain ⟨x, hxd⟩ : ∃ x : List UInt8, x = [102, b] := ⟨_, rfl⟩
      have hxl : x.length ≤ 1000000 := by rw [hxd]; simp
      rw [← hxd] at cv hba
      replace hxd := Lib.hid hxd
      have hda := hd.ext xa
      have hina := hin.ext xa.size
      obtain ⟨hrise, hsr, hro⟩ := hd.facts
      have hsb : sumB d.L ≤ 1073741824 := by omega
      have hc1 := read_any hda x hxl
      clear hb
      have hB2 := hB.mod hx (fun _ _ _ h => h)
      go_wp2_with fail
      refine hc1.mono ?_
      rintro e w2 ⟨u1, rfl, o1, f1, x2⟩
      have y2 := ext_trans xa x2
      have hd2 := hd.ext y2
      have hin2 := hin.ext y2.size
      clear hc1 hda hina cv
      go_wp2_with fail
      refine (used_law hd2).mono ?_
      rintro e w3 ⟨rfl, rfl⟩
      have hc3 := hcx.out w3 (ext_trans hx y2)
      have xb : Ext w3 (w3.alloc (.cells #[.slice B P[k].length cc] 32)) := (Mod.refl _ _).alloc _
      have hca := law_of (hin2.ext xb.size) (Nat.le_trans hx.size (Nat.le_trans y2.size xb.size)) (append_any (hd2.ext xb) x (Rw.one 32 (hB2.mod y2 (fun _ _ _ h => h))) (fun q hq hs => by
        have h1 := hin2 q hs
        rcases hq with h | h <;> omega) (by simp))
      have o1b := o1.mod xb (fun _ _ h => h)
      have hB3 := hB2.mod (ext_trans y2 xb) (fun _ _ _ h => h)
      have hxb := ext_trans hx (ext_trans y2 xb)
      have hinb := hin2.ext xb.size
      have hu1 : ∀ q, own u1 q → ¬ S q := fun q hq hs => by
        have h1 := (hin q hs).2
        have h2 := f1 q hq
        have h3 := xa.size
        omega
      replace hu1 := Lib.hid hu1
      by_cases hfit : sumB d.L + P[k].length ≤ d.room
      · obtain ⟨d', ha, hd1', hd2', hd3', hd4', hd5'⟩ := app_fits (r := P[k]) hba hrise (by omega) hfit hfu
        rw [ha] at hca
        go_wp2_with fail
        refine hca.mono ?_
        rintro e w4 ⟨rfl, S4, hd4, hin4, _, m4⟩
        have x4 := Mod.in_ext hxb m4 hinb
        have hc1 := read_any hd4 x hxl
        rw [hd3'] at hc1
        go_wp2_with fail
        refine hc1.mono ?_
        rintro e w5 ⟨u2, rfl, o2, f2, x5⟩
        have hd5 := hd4.ext x5
        have o1c := (o1b.mod m4 (fun q hq => hu1.out q hq)).mod x5 (fun _ _ h => h)
        have hB5 := (hB3.mod m4 (fun q _ hq hs => by have := (hin q hs).1; omega)).mod x5 (fun _ _ _ h => h)
        have hc5 := hcx.out w5 (ext_trans x4 x5)
        have hb1 : decide ((sumB d.L : Nat) + (P[k].length : Int) ≤ n) = true := dtrue (by have := hrm.out; omega)
        have hb2 : decide (n < (sumB d'.L : Nat)) = false := dfalse (by have := hrm.out; omega)
        have z5 := ext_trans x4 x5
        have hu := fun (wx : World) (h : Ext w5 wx) => used_law (hd5.ext h)
        have hcw := fun (wx : World) (h : Ext w5 wx) => hcx.out wx (ext_trans z5 h)
        have q0 : Ext w5 w5.drew := (Mod.refl _ w5).drew
        have oE := Own.empty w5.drew 5
        have qE : Ext w5 (w5.drew.alloc (.cells #[] 5)) := q0.alloc _
        have r1 := (o1c.mod qE (fun _ _ h => h)).sl
        have fE : Fresh w5.heap.size (.slice (some ⟨w5.drew.heap.size, 0, none⟩) 0 0) := fun b hb => by
          have e : w5.drew.heap.size = b := by simpa [Value.ownBlock] using hb
          have e2 : w5.drew.heap.size = w5.heap.size := rfl
          omega
        have hrd : ((readD d x).getD []).length ≤ sumB d.L := by
          unfold readD
          cases hg : getF d.L x with
          | none => simp
          | some f => exact len_le_sum hrise (getF_mem hg)
        have hwl : ((readD d x).getD []).length ≤ 1073741824 := by omega
        have n1 : (([] : List Value).length + (((readD d x).getD []).map bv).length) * 1 ≤ 140737488355328 := by rw [List.length_map, List.length_nil]; omega
        have n2 : ((([] : List Value) ++ ((readD d x).getD []).map bv).length + (P[k].map bv).length) * 1 ≤ 140737488355328 := by rw [List.nil_append, List.length_map, List.length_map]; omega
        have hBw := fun (wx : World) (h : Ext w5 wx) => hB.mod (ext_trans z5 h) (fun _ _ _ h => h)
        have hsm := fun (wx : World) (vx : Value) (h : Ext w5 wx) => same_app (vx := vx) o2 h
        clear hd hd2 hd4 hin hca hc1 m4 hrise hB2 hB3 o1 o1b o1c o2 hB5
        replace hsm := Lib.hid hsm
        replace hd1' := Lib.hid hd1'
        replace hd2' := Lib.hid hd2'
        clear hd3' ha hrd
        replace hd4' := Lib.hid hd4'
        replace hba := Lib.hid hba
        replace hBw := Lib.hid hBw
        replace hu := Lib.hid hu
        replace hcw := Lib.hid hcw
        replace r1 := Lib.hid r1
        replace n1 := Lib.hid n1
        replace n2 := Lib.hid n2
        replace oE := Lib.hid oE
        go_wp2_with fail
        refine wp_region_held_drew (S := fun w' => w'.cell? (ad.add k) = some (.slice B P[k].length cc)) (by kernel_rfl) (hcw.out _ q0) (fun hH => ?_)
        (refine wpAnyH_take (i := 0) (v := ?tv1) rfl (by kernel_rfl) (by kernel_rfl) (by kernel_rfl) (fun _ _ _ h => h) (Or.inl ⟨by kernel_rfl, ?hy1⟩) hH ?rs1; case hy1 => (intro wx hSw; (try dsimp only at hSw); go_simp; try with_reducible rfl); try simp only [Act.put, List.setIfInBounds_toArray, List.set_cons_zero, List.set_cons_succ])
        (refine wpAnyH_take (i := 1) (v := ?tv2) rfl (by kernel_rfl) (by kernel_rfl) (by kernel_rfl) (fun _ _ _ h => h) (Or.inl ⟨by kernel_rfl, ?hy2⟩) hH ?rs2; case hy2 => (intro wx hSw; (try dsimp only at hSw); go_simp; try with_reducible rfl); try simp only [Act.put, List.setIfInBounds_toArray, List.set_cons_zero, List.set_cons_succ])
        (refine wpAnyH_take (i := 2) (v := ?tv3) rfl (by kernel_rfl) (by kernel_rfl) (by kernel_rfl) (fun _ _ _ h => h) (Or.inl ⟨by kernel_rfl, ?hy3⟩) hH ?rs3; case hy3 => (intro wx hSw; (try dsimp only at hSw); go_simp; try with_reducible rfl); try simp only [Act.put, List.setIfInBounds_toArray, List.set_cons_zero, List.set_cons_succ])
        (refine wpAnyH_take (i := 3) (v := ?tv4) rfl (by kernel_rfl) (by kernel_rfl) (by kernel_rfl) (fun _ _ _ h => h) (Or.inl ⟨by kernel_rfl, ?hy4⟩) hH ?rs4; case hy4 => (intro wx hSw; (try dsimp only at hSw); go_simp; try with_reducible rfl); try simp only [Act.put, List.setIfInBounds_toArray, List.set_cons_zero, List.set_cons_succ])
        (refine wpAnyH_take (i := 4) (v := ?tv5) rfl (by kernel_rfl) (by kernel_rfl) (by kernel_rfl) (fun _ _ _ h => h) (Or.inl ⟨by kernel_rfl, ?hy5⟩) hH ?rs5; case hy5 => (intro wx hSw; (try dsimp only at hSw); go_simp; try with_reducible rfl); try simp only [Act.put, List.setIfInBounds_toArray, List.set_cons_zero, List.set_cons_succ])
        (refine wpAnyH_take (i := 5) (v := ?tv6) rfl (by kernel_rfl) (by kernel_rfl) (by kernel_rfl) (fun _ _ _ h => h) (Or.inl ⟨by kernel_rfl, ?hy6⟩) hH ?rs6; case hy6 => (intro wx hSw; (try dsimp only at hSw); go_simp; try with_reducible rfl); try simp only [Act.put, List.setIfInBounds_toArray, List.set_cons_zero, List.set_cons_succ])
        (refine wpAnyH_take (i := 7) (v := ?tv7) rfl (by kernel_rfl) (by kernel_rfl) (by kernel_rfl) (fun _ _ _ h => h) (Or.inl ⟨by kernel_rfl, ?hy7⟩) hH ?rs7; case hy7 => (intro wx hSw; (try dsimp only at hSw); go_simp; try with_reducible rfl); try simp only [Act.put, List.setIfInBounds_toArray, List.set_cons_zero, List.set_cons_succ])
        (refine wpAnyH_ready (rs := [6]) (by kernel_rfl) (by simp) ?_; refine AllReadyH.cons rfl (fun K hK => ?_) AllReadyH.nil; go_simp)
        refine (hu.out _ q0).mono ?_
        rintro e wu ⟨rfl, rfl⟩
        (go_wp2_with fail; refine hK.out _ _ (hcw.out _ q0) (fun hH => ?_); clear hK K; try simp only [Act.put, List.setIfInBounds_toArray, List.set_cons_zero, List.set_cons_succ])
        (refine wpAnyH_take (i := 8) (v := ?tv8) rfl (by kernel_rfl) (by kernel_rfl) (by kernel_rfl) (fun _ _ _ h => h) (Or.inl ⟨by kernel_rfl, ?hy8⟩) hH ?rs8; case hy8 => (intro wx hSw; (try dsimp only at hSw); go_simp; try with_reducible rfl); try simp only [Act.put, List.setIfInBounds_toArray, List.set_cons_zero, List.set_cons_succ])
        (refine wpAnyH_take (i := 9) (v := ?tv9) rfl (by kernel_rfl) (by kernel_rfl) (by kernel_rfl) (fun _ _ _ h => h) (Or.inl ⟨by kernel_rfl, ?hy9⟩) hH ?rs9; case hy9 => (intro wx hSw; (try dsimp only at hSw); go_simp; try with_reducible rfl); try simp only [Act.put, List.setIfInBounds_toArray, List.set_cons_zero, List.set_cons_succ])
        (refine wpAnyH_take (i := 10) (v := ?tv10) rfl (by kernel_rfl) (by kernel_rfl) (by kernel_rfl) (fun _ _ _ h => h) (Or.inl ⟨by kernel_rfl, ?hy10⟩) hH ?rs10; case hy10 => (intro wx hSw; (try dsimp only at hSw); go_simp; try with_reducible rfl); try simp only [Act.put, List.setIfInBounds_toArray, List.set_cons_zero, List.set_cons_succ])
        (refine wpAnyH_take (i := 11) (v := ?tv11) rfl (by kernel_rfl) (by kernel_rfl) (by kernel_rfl) (fun _ _ _ h => h) (Or.inl ⟨by kernel_rfl, ?hy11⟩) hH ?rs11; case hy11 => (intro wx hSw; (try dsimp only at hSw); go_simp; try with_reducible rfl); try simp only [Act.put, List.setIfInBounds_toArray, List.set_cons_zero, List.set_cons_succ])
        (refine wpAnyH_take (i := 12) (v := ?tv12) rfl (by kernel_rfl) (by kernel_rfl) (by kernel_rfl) (fun _ _ _ h => h) (Or.inl ⟨by kernel_rfl, ?hy12⟩) hH ?rs12; case hy12 => (intro wx hSw; (try dsimp only at hSw); go_simp; try with_reducible rfl); try simp only [Act.put, List.setIfInBounds_toArray, List.set_cons_zero, List.set_cons_succ])
        (refine wpAnyH_take (i := 13) (v := ?tv13) rfl (by kernel_rfl) (by kernel_rfl) (by kernel_rfl) (fun _ _ _ h => h) (Or.inl ⟨by kernel_rfl, ?hy13⟩) hH ?rs13; case hy13 => (intro wx hSw; (try dsimp only at hSw); go_simp; try with_reducible rfl); try simp only [Act.put, List.setIfInBounds_toArray, List.set_cons_zero, List.set_cons_succ])
        (refine wpAnyH_take (i := 14) (v := undef) rfl (by kernel_rfl) (by kernel_rfl) (by kernel_rfl) (fun _ _ _ h => h) (Or.inr ⟨by kernel_rfl, rfl⟩) hH ?rs14; try simp only [Act.put, List.setIfInBounds_toArray, List.set_cons_zero, List.set_cons_succ])
        (refine wpAnyH_take (i := 15) (v := undef) rfl (by kernel_rfl) (by kernel_rfl) (by kernel_rfl) (fun _ _ _ h => h) (Or.inr ⟨by kernel_rfl, rfl⟩) hH ?rs15; try simp only [Act.put, List.setIfInBounds_toArray, List.set_cons_zero, List.set_cons_succ])
        (refine wpAnyH_take (i := 16) (v := undef) rfl (by kernel_rfl) (by kernel_rfl) (by kernel_rfl) (fun _ _ _ h => h) (Or.inr ⟨by kernel_rfl, rfl⟩) hH ?rs16; try simp only [Act.put, List.setIfInBounds_toArray, List.set_cons_zero, List.set_cons_succ])
        (refine wpAnyH_take (i := 17) (v := undef) rfl (by kernel_rfl) (by kernel_rfl) (by kernel_rfl) (fun _ _ _ h => h) (Or.inr ⟨by kernel_rfl, rfl⟩) hH ?rs17; try simp only [Act.put, List.setIfInBounds_toArray, List.set_cons_zero, List.set_cons_succ])
        (refine wpAnyH_take (i := 18) (v := undef) rfl (by kernel_rfl) (by kernel_rfl) (by kernel_rfl) (fun _ _ _ h => h) (Or.inr ⟨by kernel_rfl, rfl⟩) hH ?rs18; try simp only [Act.put, List.setIfInBounds_toArray, List.set_cons_zero, List.set_cons_succ])
        (refine wpAnyH_take (i := 19) (v := undef) rfl (by kernel_rfl) (by kernel_rfl) (by kernel_rfl) (fun _ _ _ h => h) (Or.inr ⟨by kernel_rfl, rfl⟩) hH ?rs19; try simp only [Act.put, List.setIfInBounds_toArray, List.set_cons_zero, List.set_cons_succ])
        (refine wpAnyH_take (i := 20) (v := undef) rfl (by kernel_rfl) (by kernel_rfl) (by kernel_rfl) (fun _ _ _ h => h) (Or.inr ⟨by kernel_rfl, rfl⟩) hH ?rs20; try simp only [Act.put, List.setIfInBounds_toArray, List.set_cons_zero, List.set_cons_succ])
        (refine wpAnyH_take (i := 21) (v := undef) rfl (by kernel_rfl) (by kernel_rfl) (by kernel_rfl) (fun _ _ _ h => h) (Or.inr ⟨by kernel_rfl, rfl⟩) hH ?rs21; try simp only [Act.put, List.setIfInBounds_toArray, List.set_cons_zero, List.set_cons_succ])
        (refine wpAnyH_take (i := 22) (v := undef) rfl (by kernel_rfl) (by kernel_rfl) (by kernel_rfl) (fun _ _ _ h => h) (Or.inr ⟨by kernel_rfl, rfl⟩) hH ?rs22; try simp only [Act.put, List.setIfInBounds_toArray, List.set_cons_zero, List.set_cons_succ])
        (refine wpAnyH_take (i := 23) (v := undef) rfl (by kernel_rfl) (by kernel_rfl) (by kernel_rfl) (fun _ _ _ h => h) (Or.inr ⟨by kernel_rfl, rfl⟩) hH ?rs23; try simp only [Act.put, List.setIfInBounds_toArray, List.set_cons_zero, List.set_cons_succ])
        (refine wpAnyH_take (i := 24) (v := ?tv24) rfl (by kernel_rfl) (by kernel_rfl) (by kernel_rfl) (fun _ _ _ h => h) (Or.inl ⟨by kernel_rfl, ?hy24⟩) hH ?rs24; case hy24 => (intro wx hSw; (try dsimp only at hSw); go_simp; try with_reducible rfl); try simp only [Act.put, List.setIfInBounds_toArray, List.set_cons_zero, List.set_cons_succ])
        (refine wpAnyH_take (i := 25) (v := ?tv25) rfl (by kernel_rfl) (by kernel_rfl) (by kernel_rfl) (fun _ _ _ h => h) (Or.inl ⟨by kernel_rfl, ?hy25⟩) hH ?rs25; case hy25 => (intro wx hSw; (try dsimp only at hSw); go_simp; try with_reducible rfl); try simp only [Act.put, List.setIfInBounds_toArray, List.set_cons_zero, List.set_cons_succ])
        (refine wpAnyH_take (i := 26) (v := ?tv26) rfl (by kernel_rfl) (by kernel_rfl) (by kernel_rfl) (fun _ _ _ h => h) (Or.inl ⟨by kernel_rfl, ?hy26⟩) hH ?rs26; case hy26 => (intro wx hSw; (try dsimp only at hSw); go_simp; try with_reducible rfl); try simp only [Act.put, List.setIfInBounds_toArray, List.set_cons_zero, List.set_cons_succ])
        (refine wpAnyH_take (i := 27) (v := ?tv27) rfl (by kernel_rfl) (by kernel_rfl) (by kernel_rfl) (fun _ _ _ h => h) (Or.inl ⟨by kernel_rfl, ?hy27⟩) hH ?rs27; case hy27 => (intro wx hSw; (try dsimp only at hSw); go_simp; try with_reducible rfl); try simp only [Act.put, List.setIfInBounds_toArray, List.set_cons_zero, List.set_cons_succ])
        (refine wpAnyH_take (i := 28) (v := ?tv28) rfl (by kernel_rfl) (by kernel_rfl) (by kernel_rfl) (fun _ _ _ h => h) (Or.inl ⟨by kernel_rfl, ?hy28⟩) hH ?rs28; case hy28 => (intro wx hSw; (try dsimp only at hSw); go_simp; try with_reducible rfl); try simp only [Act.put, List.setIfInBounds_toArray, List.set_cons_zero, List.set_cons_succ])
        (refine wpAnyH_take (i := 29) (v := ?tv29) rfl (by kernel_rfl) (by kernel_rfl) (by kernel_rfl) (fun _ _ _ h => h) (Or.inl ⟨by kernel_rfl, ?hy29⟩) hH ?rs29; case hy29 => (intro wx hSw; (try dsimp only at hSw); go_simp; try with_reducible rfl); try simp only [Act.put, List.setIfInBounds_toArray, List.set_cons_zero, List.set_cons_succ])
        (refine wpAnyH_take (i := 31) (v := ?tv30) rfl (by kernel_rfl) (by kernel_rfl) (by kernel_rfl) (fun _ _ _ h => h) (Or.inl ⟨by kernel_rfl, ?hy30⟩) hH ?rs30; case hy30 => (intro wx hSw; (try dsimp only at hSw); go_simp; try with_reducible rfl); try simp only [Act.put, List.setIfInBounds_toArray, List.set_cons_zero, List.set_cons_succ])
        (refine wpAnyH_take (i := 33) (v := ?tv31) rfl (by kernel_rfl) (by kernel_rfl) (by kernel_rfl) (fun _ _ _ h => h) (Or.inl ⟨by kernel_rfl, ?hy31⟩) hH ?rs31; case hy31 => (intro wx hSw; (try dsimp only at hSw); go_simp; try with_reducible rfl); try simp only [Act.put, List.setIfInBounds_toArray, List.set_cons_zero, List.set_cons_succ])
        (refine wpAnyH_take (i := 34) (v := ?tv32) rfl (by kernel_rfl) (by kernel_rfl) (by kernel_rfl) (fun _ _ _ h => h) (Or.inl ⟨by kernel_rfl, ?hy32⟩) hH ?rs32; case hy32 => (intro wx hSw; (try dsimp only at hSw); go_simp; try with_reducible rfl); try simp only [Act.put, List.setIfInBounds_toArray, List.set_cons_zero, List.set_cons_succ])
        (refine wpAnyH_take (i := 35) (v := ?tv33) rfl (by kernel_rfl) (by kernel_rfl) (by kernel_rfl) (fun _ _ _ h => h) (Or.inl ⟨by kernel_rfl, ?hy33⟩) hH ?rs33; case hy33 => (intro wx hSw; (try dsimp only at hSw); go_simp; try with_reducible rfl); try simp only [Act.put, List.setIfInBounds_toArray, List.set_cons_zero, List.set_cons_succ])
        (refine wpAnyH_take (i := 36) (v := ?tv34) rfl (by kernel_rfl) (by kernel_rfl) (by kernel_rfl) (fun _ _ _ h => h) (Or.inl ⟨by kernel_rfl, ?hy34⟩) hH ?rs34; case hy34 => (intro wx hSw; (try dsimp only at hSw); go_simp; try with_reducible rfl); try simp only [Act.put, List.setIfInBounds_toArray, List.set_cons_zero, List.set_cons_succ])
        (refine wpAnyH_ready (rs := [30]) (by kernel_rfl) (by simp) ?_; refine AllReadyH.cons rfl (fun K hK => ?_) AllReadyH.nil; go_simp)
        (go_wp2_with fail; refine hK.out _ _ (hcw.out _ qE) (fun hH => ?_); clear hK K; try simp only [Act.put, List.setIfInBounds_toArray, List.set_cons_zero, List.set_cons_succ])
        (refine wpAnyH_ready (rs := [32]) (by kernel_rfl) (by simp) ?_; refine AllReadyH.cons rfl (fun K hK => ?_) AllReadyH.nil)
        refine step_appG 137 tyB oE.out r1.out (bv_one _) n1.out (by rfl) rfl (.tmp 135) (.tmp 136) rfl rfl rfl ?_
        intro va wa ka1 ka2 ka3
        have qA := ext_app0 qE fE ka2
        have gA := ka3.fresh fE qE.size
        (refine hK.out _ _ (hcw.out _ qA) (fun hH => ?_); clear hK K; try simp only [Act.put, List.setIfInBounds_toArray, List.set_cons_zero, List.set_cons_succ])
        (refine wpAnyH_ready (rs := [37]) (by kernel_rfl) (by simp) ?_; refine AllReadyH.cons rfl (fun K hK => ?_) AllReadyH.nil)
        refine step_appG 142 tyB ka1 (hBw.out _ qA) (bv_one _) n2.out (by rfl) rfl (.tmp 137) (.tmp 141) rfl rfl rfl ?_
        intro vb wb kb1 kb2 kb3
        have qB := ext_app0 qA gA kb2
        (refine hK.out _ _ (hcw.out _ qB) (fun hH => ?_); clear hK K; try simp only [Act.put, List.setIfInBounds_toArray, List.set_cons_zero, List.set_cons_succ])
        (refine wpAnyH_ready (rs := [38]) (by kernel_rfl) (by simp) ?_; refine AllReadyH.cons rfl (fun K hK => ?_) AllReadyH.nil; go_simp)
        refine (hsm.out _ _ qB kb1).mono ?_
        rintro e wc ⟨rfl, nc, rfl⟩
        (go_wp2_with fail; refine hK.out _ _ (hcw.out _ (qB.drewN nc)) (fun hH => ?_); clear hK K; try simp only [Act.put, List.setIfInBounds_toArray, List.set_cons_zero, List.set_cons_succ])
        (refine wpAnyH_take (i := 39) (v := ?tv35) rfl (by kernel_rfl) (by kernel_rfl) (by kernel_rfl) (fun _ _ _ h => h) (Or.inl ⟨by kernel_rfl, ?hy35⟩) hH ?rs35; case hy35 => (intro wx hSw; (try dsimp only at hSw); go_simp; try with_reducible rfl); try simp only [Act.put, List.setIfInBounds_toArray, List.set_cons_zero, List.set_cons_succ])
        (refine wpAnyH_take (i := 40) (v := ?tv36) rfl (by kernel_rfl) (by kernel_rfl) (by kernel_rfl) (fun _ _ _ h => h) (Or.inl ⟨by kernel_rfl, ?hy36⟩) hH ?rs36; case hy36 => (intro wx hSw; (try dsimp only at hSw); go_simp; try with_reducible rfl); try simp only [Act.put, List.setIfInBounds_toArray, List.set_cons_zero, List.set_cons_succ])
        (refine wpAnyH_take (i := 41) (v := ?tv37) rfl (by kernel_rfl) (by kernel_rfl) (by kernel_rfl) (fun _ _ _ h => h) (Or.inl ⟨by kernel_rfl, ?hy37⟩) hH ?rs37; case hy37 => (intro wx hSw; (try dsimp only at hSw); go_simp; try with_reducible rfl); try simp only [Act.put, List.setIfInBounds_toArray, List.set_cons_zero, List.set_cons_succ])
        refine wpAnyH_done (by kernel_rfl) ?_ _
        go_wp2_with fail
        exact ⟨⟨k + 1, S4, d', by omega, by go_num, hd5.ext (qB.drewN nc), hin4.ext (Nat.le_trans x5.size (qB.drewN nc).size), Lib.hid (hd1'.out.trans hrm.out), hd2'.out, by omega, ext_trans z5 (qB.drewN nc)⟩, by simp [intOf] <;> omega⟩
      · rw [app_no hba hfit] at hca
        go_wp2_with fail
        refine hca.mono ?_
        rintro e w4 ⟨rfl, S4, hd4, hin4, _, m4⟩
        have x4 := Mod.in_ext hxb m4 hinb
        have hc1 := read_any hd4 x hxl
        go_wp2_with fail
        refine hc1.mono ?_
        rintro e w5 ⟨u2, rfl, o2, f2, x5⟩
        have hd5 := hd4.ext x5
        have o1c := (o1b.mod m4 (fun q hq => hu1.out q hq)).mod x5 (fun _ _ h => h)
        have hc5 := hcx.out w5 (ext_trans x4 x5)
        have hb1 : decide ((sumB d.L : Nat) + (P[k].length : Int) ≤ n) = false := dfalse (by have := hrm.out; omega)
        have hb2 : decide (n < (sumB d.L : Nat)) = false := dfalse (by have := hrm.out; omega)
        have hu := fun (m : Nat) => used_law (hd5.ext ((Mod.refl _ w5).drewN m))
        have hsm := fun (m : Nat) => same_any (o2.drewN m).sl (o1c.drewN m).sl
        simp only [dtrue rfl] at hsm
        go_wp2_with fail
        go_quiet ((first | (go_at_call 30; exact Calls.quiet_of_same (hu _)) | (go_at_call 24; exact Calls.quiet_of (hsm _))))
        go_wp2_with fail
        exact ⟨⟨k + 1, S4, d, by omega, by go_num, hd5.ext ((Mod.refl _ w5).drewN nq), hin4.ext x5.size, hrm, hfu, by omega, (ext_trans x4 x5).drewN nq⟩, by simp [intOf] <;> omega⟩
end Go.Proofs.Ytagchhcpmibelaa
