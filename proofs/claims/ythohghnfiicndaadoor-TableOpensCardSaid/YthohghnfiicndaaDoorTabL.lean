/- table: Open. -/
import Derived.Test.YthohghnfiicndaaDoorTabK
import Derived.Test.YthohghnfiicndaaDoorTabF
namespace Go.Proofs.YthohghnfiicndaaDoor
open Go.RowKit Go.Maps Go.WideMaps
set_option maxRecDepth 100000

theorem oneR_len (l : List UInt8) : (oneR l).1.length ≤ l.length := by
  unfold oneR
  split
  · exact Nat.zero_le _
  · split
    · exact Nat.zero_le _
    · rename_i h1 h2
      obtain ⟨_, _, _, a4, _, e⟩ := dec_ok (l := l) (by omega)
      rw [e]
      show (List.take _ (List.drop 8 l)).length ≤ _
      rw [List.length_take, List.length_drop]; omega
/-- What Open tells of a Table. -/
def Opened (w w' : World) (u : Value) : Option (List Ce) → Prop
  | none => u = .pointer none
  | some L => ∃ g acc, u = .pointer (some ⟨g, 0, none⟩) ∧ acc.map Prod.fst = (splitB L).map bl ∧ Tb (fun k => w.heap.size ≤ k) w' g acc (L.length : Nat) (filB L)
theorem Nib.lt {w : World} (h : Nib w) : 0 < w.heap.size := lt_of_cell (h 0 (by omega))
theorem run_makeM (w : World) : (Instr.makeMap 69 none).run Tryd.prog w = .ok (.map (some w.heap.size)) (w.alloc (.map #[] 0)) := by
  simp [Instr.makeMap, run_underlying Tryd.underlying69, Result.andThen]
/-- A Table that has just been laid out. -/
theorem laid_table (w : World) : Blk ((w.alloc (.map #[] 0)).alloc (.cells (tcells (.slice none 0 0) w.heap.size (.slice none 0 0) 0) 72)) (w.heap.size + 1) 72 (tcells (.slice none 0 0) w.heap.size (.slice none 0 0) 0) ∧
    ((w.alloc (.map #[] 0)).alloc (.cells (tcells (.slice none 0 0) w.heap.size (.slice none 0 0) 0) 72)).ownsMap Tryd.prog 85 slE w.heap.size 0 (.map []) := by
  constructor
  · have := Blk.new (w.alloc (.map #[] 0)) 72 (tcells (.slice none 0 0) w.heap.size (.slice none 0 0) 0)
    rw [show (w.alloc (.map #[] 0)).heap.size = w.heap.size + 1 by simp] at this
    exact this
  · exact (World.ownsMap_made w _ _ _).alloc _

set_option maxHeartbeats 16000000 in
theorem open_any {w : World} {S : Nat → Prop} {v : Value} {bs : List UInt8} (h : Bs w S v bs) (hN : Nib w) (hl : bs.length ≤ 40000) :
    Calls Tryd.prog 14 #[v] w fun e w' => ∃ u, e = .returned (.tuple #[u, .int .i64 (openN bs : Nat)]) ∧ Opened w w' u (openL bs) ∧ Ext w w' := by
  have hNl := hN.lt
  have hpl := oneR_len bs
  have hc1 := fone_any h hN (by omega)
  obtain ⟨A, c, rfl, h1, h2, h3, h4⟩ := h.open_
  have hbs : ∀ {wx : World}, Ext w wx → Bs wx S (.slice A bs.length c) bs := fun m => h.ext m
  obtain ⟨R, hR⟩ : ∃ R, R = openN bs := ⟨_, rfl⟩
  obtain ⟨O, hO⟩ : ∃ O, O = openL bs := ⟨_, rfl⟩
  have hpt := fun L (a : openL bs = some L) (b : wC L ≤ 300000) => open_parts a b
  rw [← hR, ← hO]
  rw [← hO] at hpt
  unfold openN at hR
  rw [← hO] at hR
  unfold openL at hO
  rcases e1 : oneR bs with ⟨p, er⟩
  rw [e1] at hR hO hpt hc1 hpl
  simp only at hR hO hpt hc1 hpl
  by_cases her : er = 0
  case neg =>
    rw [if_pos her] at hR hO
    have hb : ((er : Int) != 0) = true := by rw [bne_iff_ne]; omega
    subst hR; subst hO
    clear hpt h
    go_enter Tryd.func14, Tryd.ntmps14
    go_wp2_with fail
    refine hc1.mono ?_
    rintro e w1 ⟨v1, rfl, o1, f1, x1⟩
    clear hc1
    go_wp2_with fail
    go_ret2
    exact ⟨_, rfl, rfl, x1⟩
  rw [if_neg (by omega)] at hR hO
  have hb : ((er : Int) != 0) = false := by rw [bne_eq_false_iff_eq]; omega
  have hw := fun x (a : openT p = some x) => open_weight a
  clear h e1 her
  replace hR := Lib.hid hR
  replace hO := Lib.hid hO
  replace hpt := Lib.hid hpt
  replace hw := Lib.hid hw
  go_enter Tryd.func14, Tryd.ntmps14
  go_wp2_with fail
  refine hc1.mono ?_
  rintro e w1 ⟨v1, rfl, o1, f1, x1⟩
  clear hc1
  have hmk := run_makeM w1
  obtain ⟨A1, c1, rfl⟩ := o1.shape
  rw [List.length_map] at o1 f1 ⊢
  obtain ⟨bt, mt⟩ := laid_table w1
  have x2 : Ext w1 ((w1.alloc (.map #[] 0)).alloc (.cells (tcells (.slice none 0 0) w1.heap.size (.slice none 0 0) 0) 72)) := ((Mod.refl _ w1).alloc _).alloc _
  obtain ⟨w2, hw2⟩ : ∃ w2, w2 = (w1.alloc (.map #[] 0)).alloc (.cells (tcells (.slice none 0 0) w1.heap.size (.slice none 0 0) 0) 72) := ⟨_, rfl⟩
  rw [← hw2] at bt mt x2
  have hw3 : (w1.alloc (.map #[] 0)).alloc (.cells #[.slice none 0 0, .map (some w1.heap.size), .slice none 0 0, .int .i64 0] 72) = w2 := hw2.symm
  replace hw3 := Lib.hid hw3
  clear hw2
  obtain ⟨bm, hbm⟩ : ∃ bm, bm = w1.heap.size := ⟨_, rfl⟩
  have hz1 := x1.size
  have hz2 := bt.lt
  replace hbm := Lib.hid hbm
  go_upto_region 5 with fail
  rw [hw3.out, ← hbm.out]
  rw [← hbm.out] at bt mt hz2
  clear hw3 hmk
  have o2 := o1.mod x2 (fun _ _ h => h)
  have y2 := ext_trans x1 x2
  have hc3 := newreader_any o2.sl (by omega)
  go_wp2_with fail
  refine hc3.mono ?_
  rintro e w3 ⟨b, v3, rfl, r3, hb3, hb4, x3⟩
  have y3 := ext_trans y2 x3
  have hc4 := ttake_any (bt.mod x3 (fun h => h)) (ownsMap_mod mt x3 (fun h => h)) r3 (fun k hk => ⟨by omega, by omega, by omega⟩) (by omega)
  have hbw : w.heap.size ≤ bm := by rw [hbm.out]; exact hz1
  clear hc3 o1 o2 f1 x1 x2 r3 bt mt
  go_wp2_with fail
  refine hc4.mono ?_
  rintro e w4 ⟨q, rfl, hT, M⟩
  have y4 : Ext w w4 := y3.trans M (fun _ _ h => h) (fun k hk hF => by rcases hF with hF | hF | hF <;> omega)
  have hz3 := x3.size
  have hz4 := y3.size
  clear hc4 M x3
  rcases hT with ⟨rfl, hT⟩ | ⟨rfl, x, acc, hT, hac, bm', ve, vf, D, T⟩
  · have hO2 : O = none := hO.out.trans (by rw [hT]; rfl)
    subst hO2
    have hR2 : R = 3 := hR.out
    subst hR2
    clear hO hR hpt hw
    go_wp2_with fail
    go_ret2
    exact ⟨_, rfl, rfl, y4⟩
  have hwx := hw.out x hT
  have hlen : acc.length = x.1.length := by rw [← hac, List.length_map]
  have hL : allT (acc.map Prod.fst) = allT x.1 := by rw [hac]
  have hwl := wC_len (allT x.1)
  have hc5 := all_any T (by rw [hL]; omega) (by omega)
  rw [hL] at hc5
  have hO2 : O = if buildN (allT x.1) = 0 ∧ buildB (allT x.1) = bs then some (allT x.1) else none := hO.out.trans (by rw [hT]; rfl)
  have hTb : Tb (fun k => w.heap.size ≤ k) w4 (bm + 1) acc (x.2.1 : Nat) x.2.2 := ⟨bm', ve, vf, D, T.mono (fun k _ hk => by rcases hk with hk | hk | hk <;> omega)⟩
  clear hO hL hlen T
  go_wp2_with fail
  refine hc5.mono ?_
  rintro e w5 ⟨v5, rfl, o5, f5, x5⟩
  have y5 := ext_trans y4 x5
  have hTb5 := hTb.ext x5
  have hc6 := build_any o5.rc (by omega) (hN.mod y5 (fun h => h))
  clear hc5 hTb x5 y4
  go_wp2_with fail
  refine hc6.mono ?_
  rintro e w6 ⟨v6, rfl, o6, f6, x6⟩
  have y6 := ext_trans y5 x6
  have hTb6 := hTb5.ext x6
  have hc7 := equal_any o6.sl (hbs y6)
  clear hc6 hTb5 x6 y5 o5 f5
  obtain ⟨A6, n6, c6, rfl⟩ : ∃ A n c, v6 = Value.slice A n c := by obtain ⟨A, c, h⟩ := o6.shape; exact ⟨A, _, c, h⟩
  by_cases hb0 : buildN (allT x.1) = 0
  case neg =>
    have hb9 : ((buildN (allT x.1) : Int) != 0) = true := by rw [bne_iff_ne]; omega
    rw [if_neg (fun h => hb0 h.1)] at hO2
    subst hO2
    have hR2 : R = 3 := hR.out
    subst hR2
    generalize buildN (allT x.1) = bn at *
    clear hR hpt hw hc7
    go_wp2_with fail
    go_ret2
    exact ⟨_, rfl, rfl, y6⟩
  have hb9 : ((buildN (allT x.1) : Int) != 0) = false := by rw [bne_eq_false_iff_eq]; omega
  by_cases hbe : buildB (allT x.1) = bs
  case neg =>
    rw [if_neg (fun h => hbe h.2)] at hO2
    subst hO2
    have hR2 : R = 3 := hR.out
    subst hR2
    rw [dfalse hbe] at hc7
    generalize buildN (allT x.1) = bn at *
    clear hR hpt hw
    go_wp2_with fail
    refine hc7.mono ?_
    rintro e w7 ⟨rfl, rfl⟩
    go_wp2_with fail
    go_ret2
    exact ⟨_, rfl, rfl, y6⟩
  rw [if_pos ⟨hb0, hbe⟩] at hO2
  have hx := hpt.out _ hO2 (by omega)
  rw [hT] at hx
  injection hx with hx
  have hx1 : x.1 = (splitB (allT x.1)).map bl := congrArg Prod.fst hx
  have hx2 : x.2.1 = (allT x.1).length := congrArg (fun y => y.2.1) hx
  have hx3 : x.2.2 = filB (allT x.1) := congrArg (fun y => y.2.2) hx
  rw [hx2, hx3] at hTb6
  clear hx
  have hR2 : R = 0 := by rw [hR.out, hO2]; rfl
  subst hR2
  rw [dtrue hbe] at hc7
  have hfin : Opened w w6 (.pointer (some ⟨bm + 1, 0, none⟩)) O := by
    rw [hO2]
    exact ⟨bm + 1, acc, rfl, hac.trans hx1, hTb6⟩
  replace hfin := Lib.hid hfin
  clear hR hpt hw hO2 hwx hac hwl hTb6 hbe hx1 hx2 hx3 hT hb0
  generalize buildN (allT x.1) = bn at *
  go_wp2_with fail
  refine hc7.mono ?_
  rintro e w7 ⟨rfl, rfl⟩
  go_wp2_with fail
  go_ret2
  exact ⟨_, rfl, hfin.out, y6⟩
end Go.Proofs.YthohghnfiicndaaDoor
