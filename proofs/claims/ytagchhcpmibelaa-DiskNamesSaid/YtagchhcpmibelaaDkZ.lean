/- disk: DiskNames. -/
import Derived.Test.YtagchhcpmibelaaDkY
import Derived.Test.YtagchhcpmibelaaDkS
namespace Go.Proofs.Ytagchhcpmibelaa
open Go.RowKit Go.Maps Go.WideMaps
set_option maxRecDepth 100000

theorem row_new {w0 w : World} {S : Nat → Prop} {B : Nat} {T : Nat → Prop} {v : Value} {l : List UInt8} (hin : In B w0 S) (hx : w0.heap.size ≤ w.heap.size) (hT : ∀ k, T k → k < B) (h : Bs w T v l) :
    Rw (w.alloc (.cells #[v] 32)) (fun k => T k ∨ k = w.heap.size) (.slice (some ⟨w.heap.size, 0, none⟩) 1 1) [l] ∧ ∀ k, (T k ∨ k = w.heap.size) → ¬ S k :=
  ⟨Rw.one 32 h, fun k hk hs => by
    have h1 := hin k hs
    rcases hk with hk | hk
    · have := hT k hk; omega
    · omega⟩
theorem Bs.old {w : World} {v : Value} {l : List UInt8} (h : Bs w (fun _ => True) v l) : Bs w (fun k => k < w.heap.size) v l := Sl.mono h fun k hk _ => hk
def lastN (a b : List UInt8) (s : Bool) : Nat := if s then (a ++ b).length else a.length
def s2 (a b c : List UInt8) (n : Nat) : Ds := st [⟨[120], a ++ b, n⟩, ⟨[121], c, 0⟩]
theorem nm_app1 {a : List UInt8} (h : a.length ≤ 8000) : appendD (newD 1048576) [120] [a] = (st [⟨[120], a, 0⟩], 0) := by
  have := st_app (L := []) (x := [120]) (P := [a]) (by decide) (by simp [sumB, tot]; omega) (by simp)
  have e : newD 1048576 = st [] := rfl
  rw [e]
  simpa [getF, putF] using this
theorem nm_sync1 {a : List UInt8} : eachD syncD (st [⟨[120], a, 0⟩]) [[120]] = (st [⟨[120], a, a.length⟩], 0) := rfl
theorem nm_app2 {a b : List UInt8} (h : a.length + b.length ≤ 8000) : appendD (st [⟨[120], a, a.length⟩]) [120] [b] = (st [⟨[120], a ++ b, a.length⟩], 0) := by
  have := st_app (L := [⟨[120], a, a.length⟩]) (x := [120]) (P := [b]) (by decide) (by simp [sumB, tot]; omega) (by simp)
  simpa [getF, putF] using this
theorem nm_app3 {a b c : List UInt8} (h : a.length + b.length + c.length ≤ 8000) : appendD (st [⟨[120], a ++ b, a.length⟩]) [121] [c] = (s2 a b c a.length, 0) := by
  have := st_app (L := [⟨[120], a ++ b, a.length⟩]) (x := [121]) (P := [c]) (by decide) (by simp [sumB, tot]; omega) (by simp)
  rw [this]
  simp [s2, getF, putF, Op.bytesLess]
theorem nm_sync2 {a b c : List UInt8} {n : Nat} : eachD syncD (s2 a b c n) [[120]] = (s2 a b c (a ++ b).length, 0) := rfl
theorem nm_ren {a b c : List UInt8} {n : Nat} : renameD (s2 a b c n) [120] [121] = (st [⟨[121], a ++ b, n⟩], 0) := rfl
theorem nm_ren2 {a b : List UInt8} {n : Nat} : renameD (st [⟨[121], a ++ b, n⟩]) [120] [122] = (st [⟨[121], a ++ b, n⟩], 7) := rfl
theorem nm_read {a b : List UInt8} {n : Nat} : readD (crashD 0 (st [⟨[121], a ++ b, n⟩])) [121] = some ((a ++ b).take n) := by
  have e : crashF 0 ⟨[121], a ++ b, n⟩ = ⟨[121], (a ++ b).take n, n⟩ := by simp [crashF, crashN]
  unfold readD crashD
  simp only [List.map_cons, List.map_nil, e]
  rfl
set_option maxHeartbeats 16000000 in
theorem names_any {w : World} {va vb vc : Value} {a b c : List UInt8} {sy : Bool} (ha0 : Bs w (fun _ => True) va a) (hb0 : Bs w (fun _ => True) vb b) (hc0 : Bs w (fun _ => True) vc c) (la : a.length ≤ 140737488351232) (lb : b.length ≤ 140737488351232) (lc : c.length ≤ 140737488351232) :
    Calls Try.prog 8 #[va, vb, vc, .bool sy] w fun e w' => e = .returned (.bool true) ∧ Ext w w' := by
  have ha := ha0.old
  have hb := hb0.old
  have hc := hc0.old
  obtain ⟨A1, c1, rfl, p1, p2, p3, p4⟩ := ha.open_
  obtain ⟨A2, c2, rfl, q1, q2, q3, q4⟩ := hb.open_
  obtain ⟨A3, c3, rfl, r1, r2, r3, r4⟩ := hc.open_
  clear ha0 hb0 hc0 p4 q4 r4
  by_cases hbig : 8000 < a.length + b.length + c.length
  · have hbb : decide ((8000 : Int) < (a.length : Int) + (b.length : Int) + (c.length : Int)) = true := dtrue (by omega)
    go_enter Try.func8, Try.ntmps8
    go_wp2_with fail
    go_ret
    exact ⟨rfl, Mod.refl _ _⟩
  have hbb : decide ((8000 : Int) < (a.length : Int) + (b.length : Int) + (c.length : Int)) = false := dfalse (by omega)
  go_enter Try.func8, Try.ntmps8
  go_wp2_with fail
  refine (new_law 1048576 (by omega) (by omega)).mono ?_
  rintro e w1 ⟨bd, rfl, S1, hd1, hin1, x1⟩
  have xa : Ext w1 (w1.alloc (.cells #[.slice A1 a.length c1] 32)) := (Mod.refl _ _).alloc _
  obtain ⟨rw1, rw2⟩ := row_new hin1 (Nat.le_refl _) (fun k hk => hk) (ha.mod x1 (fun _ _ _ h => h))
  have hca := law_of (hin1.ext xa.size) (Nat.le_trans x1.size xa.size) (append_any (hd1.ext xa) [120] rw1 rw2 (by simp))
  rw [nm_app1 (by omega)] at hca
  replace x1 := ext_trans x1 xa
  replace hin1 := hin1.ext xa.size
  clear hd1 xa rw1 rw2
  go_wp2_with fail
  refine hca.mono ?_
  rintro e w2 ⟨rfl, S2, hd2, hin2, _, m2⟩
  have x2 := Mod.in_ext x1 m2 hin1
  clear hca m2 hin1 x1
  have xa : Ext w2 (w2.alloc (.cells #[sv [120]] 9)) := (Mod.refl _ _).alloc _
  have hca := law_of (hin2.ext xa.size) (Nat.le_trans x2.size xa.size) (Sync_any (hd2.ext xa) (one_name w2 [120]) (fun q hq => not_in hin2 (Nat.le_refl _) q (by omega)))
  rw [nm_sync1] at hca
  replace x2 := ext_trans x2 xa
  replace hin2 := hin2.ext xa.size
  clear hd2 xa
  go_wp2_with fail
  refine hca.mono ?_
  rintro e w3 ⟨rfl, S3, hd3, hin3, _, m3⟩
  have x3 := Mod.in_ext x2 m3 hin2
  clear hca m3 hin2 x2
  have xa : Ext w3 (w3.alloc (.cells #[.slice A2 b.length c2] 32)) := (Mod.refl _ _).alloc _
  obtain ⟨rw1, rw2⟩ := row_new hin3 (Nat.le_refl _) (fun k hk => hk) (hb.mod x3 (fun _ _ _ h => h))
  have hca := law_of (hin3.ext xa.size) (Nat.le_trans x3.size xa.size) (append_any (hd3.ext xa) [120] rw1 rw2 (by simp))
  rw [nm_app2 (by omega)] at hca
  replace x3 := ext_trans x3 xa
  replace hin3 := hin3.ext xa.size
  clear hd3 xa rw1 rw2
  go_wp2_with fail
  refine hca.mono ?_
  rintro e w4 ⟨rfl, S4, hd4, hin4, _, m4⟩
  have x4 := Mod.in_ext x3 m4 hin3
  clear hca m4 hin3 x3
  have xa : Ext w4 (w4.alloc (.cells #[.slice A3 c.length c3] 32)) := (Mod.refl _ _).alloc _
  obtain ⟨rw1, rw2⟩ := row_new hin4 (Nat.le_refl _) (fun k hk => hk) (hc.mod x4 (fun _ _ _ h => h))
  have hca := law_of (hin4.ext xa.size) (Nat.le_trans x4.size xa.size) (append_any (hd4.ext xa) [121] rw1 rw2 (by simp))
  rw [nm_app3 (by omega)] at hca
  replace x4 := ext_trans x4 xa
  replace hin4 := hin4.ext xa.size
  clear hd4 xa rw1 rw2
  go_wp2_with fail
  refine hca.mono ?_
  rintro e w5 ⟨rfl, S5, hd5, hin5, _, m5⟩
  have x5 := Mod.in_ext x4 m5 hin4
  clear hca m5 hin4 x4
  cases sy
  case' true =>
    have xa : Ext w5 (w5.alloc (.cells #[sv [120]] 9)) := (Mod.refl _ _).alloc _
    have hca := law_of (hin5.ext xa.size) (Nat.le_trans x5.size xa.size) (Sync_any (hd5.ext xa) (one_name w5 [120]) (fun q hq => not_in hin5 (Nat.le_refl _) q (by omega)))
    rw [nm_sync2] at hca
    replace x5 := ext_trans x5 xa
    replace hin5 := hin5.ext xa.size
    clear hd5 xa
    go_wp2_with fail
    refine hca.mono ?_
    rintro e w6 ⟨rfl, S6, hd6, hin6, _, m6⟩
    have x6 := Mod.in_ext x5 m6 hin5
    clear hca m6 hin5 x5
    have hn : Hid ((a ++ b).take (a ++ b).length = a ++ b) := Lib.hid (List.take_length ..)
  case' false =>
    have hn : Hid ((a ++ b).take a.length = a) := Lib.hid (by simp)
    have x6 := x5
    have hd6 := hd5
    have hin6 := hin5
    clear x5 hd5 hin5
    obtain ⟨w6, hw6⟩ : ∃ w6, w6 = w5 := ⟨_, rfl⟩
    subst hw6
  all_goals
    have hca := law_of hin6 x6.size (rename_any hd6 [120] [121])
    rw [nm_ren] at hca
    clear hd6
    go_wp2_with fail
    refine hca.mono ?_
    rintro e w7 ⟨rfl, S7, hd7, hin7, _, m7⟩
    have x7 := Mod.in_ext x6 m7 hin6
    clear hca m7 hin6 x6
    have hcl := list_any hd7
    go_wp2_with fail
    refine hcl.mono ?_
    rintro e w8 ⟨u, rfl, o8, f8, x8⟩
    have y8 := ext_trans x7 x8
    have hd8 := hd7.ext x8
    have hin8 := hin7.ext x8.size
    have xa : Ext w8 (w8.alloc (.cells #[sv [121]] 9)) := (Mod.refl _ _).alloc _
    have hct := texts3_any (o8.sl.mod xa (fun _ _ _ h => h)) (one_name w8 [121])
    rw [dtrue (show nms (st [⟨[121], a ++ b, _⟩]).L = [[121]] from rfl)] at hct
    clear hcl x7 x8 hd7 hin7 f8 o8
    go_wp2_with fail
    refine hct.mono ?_
    rintro e w9 ⟨rfl, x9⟩
    have z9 := ext_trans xa x9
    have y9 := ext_trans y8 z9
    have hin9 := hin8.ext z9.size
    have hca := law_of hin9 y9.size (rename_any (hd8.ext z9) [120] [122])
    rw [nm_ren2] at hca
    clear hct xa x9 hd8 hin8 y8 z9
    go_wp2_with fail
    refine hca.mono ?_
    rintro e w10 ⟨rfl, S10, hd10, hin10, _, m10⟩
    have x10 := Mod.in_ext y9 m10 hin9
    clear hca m10 hin9 y9
    have hca := law_of hin10 x10.size (crash_any hd10 0 (by omega))
    clear hd10
    go_wp2_with fail
    refine hca.mono ?_
    rintro e w11 ⟨rfl, S11, hd11, hin11, _, m11⟩
    have x11 := Mod.in_ext x10 m11 hin10
    clear hca m11 hin10 x10
    have hcr := read_any hd11 [121] (by decide)
    rw [nm_read] at hcr
    rw [show ∀ l : List UInt8, (some l).getD [] = l from fun _ => rfl, show ∀ l : List UInt8, codeR (some l) = 0 from fun _ => rfl, hn.out] at hcr
    go_wp2_with fail
    refine hcr.mono ?_
    rintro e w12 ⟨u12, rfl, o12, f12, x12⟩
    have y12 := ext_trans x11 x12
    clear hcr hd11 hin11 x11 x12 f12 hn
    have oE := Own.empty w12 5
    have fE : Fresh w12.heap.size (.slice (some ⟨w12.heap.size, 0, none⟩) 0 0) := fun b hb => by
      have e : w12.heap.size = b := by simpa [Value.ownBlock] using hb
      omega
    have xE : Ext w12 (w12.alloc (.cells #[] 5)) := (Mod.refl _ _).alloc _
    have rE := ha.mod (ext_trans y12 xE) (fun _ _ _ h => h)
    have n1 : (([] : List Value).length + (a.map bv).length) * 1 ≤ 140737488355328 := by rw [List.length_map, List.length_nil]; omega
    have n2 : ((a.map bv).length + (b.map bv).length) * 1 ≤ 140737488355328 := by rw [List.length_map, List.length_map]; omega
    have hfa : ∀ (v : Value) (wx : World), Own wx 5 v (([] : List Value) ++ a.map bv) → Mod (own (.slice (some ⟨w12.heap.size, 0, none⟩) 0 0)) (w12.alloc (.cells #[] 5)) wx → Next (w12.alloc (.cells #[] 5)).heap.size (.slice (some ⟨w12.heap.size, 0, none⟩) 0 0) v →
        Own wx 5 v (a.map bv) ∧ Ext w12 wx ∧ Fresh w12.heap.size v := fun v wx o m n => ⟨by simpa using o, ext_app0 xE fE m, n.fresh fE xE.size⟩
    replace hfa := Lib.hid hfa
    clear hbb
  · go_wp2_with ((with_reducible show wpList _ _ _ (⟨some 91, _, _, _, _, _⟩ :: _) _ _); refine wp_app tyB oE rE (bv_one _) rfl (.tmp 89) (.tmp 90) rfl rfl rfl n1 ?_; intro v13 w13 o13 m13 n13; obtain ⟨k1, k2, k3⟩ := hfa.out v13 w13 o13 m13 n13; clear o13 m13 n13 hfa)
    have hsm := same_any (o12.mod k2 (fun _ _ h => h)).sl k1.sl
    rw [dtrue rfl] at hsm
    refine hsm.mono ?_
    rintro e w14 ⟨rfl, k14, rfl⟩
    go_wp2_with fail
    refine known3_any.mono ?_
    rintro e w15 ⟨rfl, x15⟩
    go_wp2_with fail
    go_ret
    exact ⟨rfl, ext_trans ((ext_trans y12 k2).drewN k14) x15⟩
  · go_wp2_with (first
      | ((with_reducible show wpList _ _ _ (⟨some 91, _, _, _, _, _⟩ :: _) _ _); refine wp_app tyB oE rE (bv_one _) rfl (.tmp 89) (.tmp 90) rfl rfl rfl n1 ?_; intro v13 w13 o13 m13 n13; obtain ⟨k1, k2, k3⟩ := hfa.out v13 w13 o13 m13 n13; clear o13 m13 n13 hfa; have hB13 := hb.mod (ext_trans y12 k2) (fun _ _ _ h => h))
      | ((with_reducible show wpList _ _ _ (⟨some 95, _, _, _, _, _⟩ :: _) _ _); refine wp_app tyB k1 hB13 (bv_one _) rfl (.tmp 93) (.tmp 94) rfl rfl rfl n2 ?_; intro v14 w14 o14 m14 n14))
    have k4 := ext_app0 k2 k3 m14
    have o14' : Own w14 5 v14 ((a ++ b).map bv) := by rw [List.map_append]; exact o14
    have hsm := same_any (o12.mod k4 (fun _ _ h => h)).sl o14'.sl
    rw [dtrue rfl] at hsm
    refine hsm.mono ?_
    rintro e w15 ⟨rfl, k15, rfl⟩
    go_wp2_with fail
    refine known3_any.mono ?_
    rintro e w16 ⟨rfl, x16⟩
    go_wp2_with fail
    go_ret
    exact ⟨rfl, ext_trans ((ext_trans y12 k4).drewN k15) x16⟩
end Go.Proofs.Ytagchhcpmibelaa
