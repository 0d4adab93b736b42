/- schema: the classes that an entry names. -/
import Derived.Test.YtdfjldlfimbimaaScC
import Derived.Test.YtdfjldlfimbimaaAppS
import Derived.Deep.Cut
import Derived.Deep.DeepCutAuto
namespace Go.Proofs.Ytdfjldlfimbimaa
open Go.RowKit
set_option maxRecDepth 100000

/-- A row of classes, of its own, whose own rows lie below B. -/
def NmAt (w : World) (B : Nat) (v : Value) (N : List (Tx × Tx)) : Prop :=
  ∃ C : List EnV, OwnR enc2 2 w 64 v C ∧ Fresh B v ∧ B ≤ w.heap.size ∧ C.length = N.length ∧ ∀ (i : Nat) (x : EnV) (n : Tx × Tx), C[i]? = some x → N[i]? = some n → Ts w (fun k => k < B) x.1 n.1 ∧ Ts w (fun k => k < B) x.2 n.2
theorem NmAt.nil (w : World) : NmAt w w.heap.size (.slice none 0 0) [] := ⟨[], OwnR.nil enc2 2 w _, fresh_nil _ _ _, Nat.le_refl _, rfl, fun i x n hx => by simp at hx⟩
theorem NmAt.ext {w w' : World} {B : Nat} {v : Value} {N : List (Tx × Tx)} (h : NmAt w B v N) (hm : Ext w w') : NmAt w' B v N := by
  obtain ⟨C, h1, h2, h3, h4, h5⟩ := h
  exact ⟨C, OwnR.ext h1 hm, h2, Nat.le_trans h3 hm.size, h4, fun i x n hx hn => ⟨(h5 i x n hx hn).1.ext hm, (h5 i x n hx hn).2.ext hm⟩⟩
theorem NmAt.more {w w' : World} {B : Nat} {v v' : Value} {N : List (Tx × Tx)} {C : List EnV} {x : EnV} {n : Tx × Tx} (f : Fresh B v) (hB : B ≤ w.heap.size) (hl : C.length = N.length) (hc : ∀ (i : Nat) (x : EnV) (n : Tx × Tx), C[i]? = some x → N[i]? = some n → Ts w (fun k => k < B) x.1 n.1 ∧ Ts w (fun k => k < B) x.2 n.2)
    (t1 : Ts w (fun k => k < B) x.1 n.1) (t2 : Ts w (fun k => k < B) x.2 n.2) (o : OwnR enc2 2 w' 64 v' (C ++ [x])) (hm : Mod (own v) w w') (hn : Next w.heap.size v v') : NmAt w' B v' (N ++ [n]) := by
  have ne : ∀ k, k < w.heap.size → k < B → ¬ own v k := fun k _ h q => by have := f k q; omega
  refine ⟨_, o, hn.fresh f hB, Nat.le_trans hB hm.size, by simp [hl], fun i y z hy hz => ?_⟩
  by_cases hi : i < C.length
  · rw [List.getElem?_append_left hi] at hy
    rw [List.getElem?_append_left (by omega)] at hz
    exact ⟨(hc i y z hy hz).1.mod hm ne, (hc i y z hy hz).2.mod hm ne⟩
  · rw [List.getElem?_append_right (by omega)] at hy hz
    rw [hl] at hy
    obtain ⟨j, hj⟩ : ∃ j, i - N.length = j := ⟨_, rfl⟩
    rw [hj] at hy hz
    cases j with
    | zero =>
      obtain rfl := Option.some.inj hy
      obtain rfl := Option.some.inj hz
      exact ⟨t1.mod hm ne, t2.mod hm ne⟩
    | succ j => cases hy
theorem tyCl : SliceTyK Try.prog 55 64 (.agg #[.slice none 0 0, .slice none 0 0]) 2 48 := ⟨Try.underlying55, by kernel_rfl, rfl, by decide, by decide⟩
theorem enc2_ok {A A' : Option Addr} {n c n' c' : Nat} : ∀ u ∈ enc2 (.slice A n c, .slice A' n' c'), u.oneCell' = true := by
  intro u hu
  simp only [enc2, List.mem_cons, List.not_mem_nil, or_false] at hu
  rcases hu with rfl | rfl <;> rfl
theorem zeroK (w : World) : (zeroValue 51).run Try.prog w = .ok (.agg #[.int .i64 0, .bool false]) w := Try.zeroValue51 w
/-- What known answers. -/
def KnR (L : List Att) (e : Ending) (w' : World) : Prop :=
  (¬ knownE L ∧ e = .returned (.tuple #[.slice none 0 0, .bool false])) ∨ (knownE L ∧ ∃ v B, e = .returned (.tuple #[v, .bool true]) ∧ NmAt w' B v (namedE L))
theorem clR_open {w w1 : World} {D : List (ByteArray × Value)} {b : Nat} (h : ClsAt w1 b clTab) : ∃ D, MpAt w1 b D ∧ (∀ k, clP k = none → lk ⟨k.toArray⟩ D = none) ∧ ∀ k c, clP k = some c → ∃ A n d A' n' d', lk ⟨k.toArray⟩ D = some (.agg #[.slice A n d, .slice A' n' d']) ∧ Ts w1 (fun j => j < w1.heap.size) (.slice A n d) c.1 ∧ Ts w1 (fun j => j < w1.heap.size) (.slice A' n' d') c.2 := by
  obtain ⟨D, h1, h2, h3⟩ := h
  refine ⟨D, h1, fun k hk => (cls_lk k D clTab h2 h3).1 hk, fun k c hk => ?_⟩
  obtain ⟨x, y, e, t1, t2⟩ := (cls_lk k D clTab h2 h3).2 c hk
  have u1 := t1.mono (T := fun j => j < w1.heap.size) (fun j hj _ => hj)
  have u2 := t2.mono (T := fun j => j < w1.heap.size) (fun j hj _ => hj)
  obtain ⟨A, d, rfl, -⟩ := Sl.open_ t1
  obtain ⟨A', d', rfl, -⟩ := Sl.open_ t2
  exact ⟨_, _, _, _, _, _, e, u1, u2⟩
set_option maxHeartbeats 32000000 in
theorem sknown_any {w : World} {vd va : Value} {E : Ent} (hd : As w AllE vd E.dn) (ha : Ats w va E.ats) (hw : wE E ≤ 1000000) :
    Calls Try.prog 22 #[.agg #[vd, va]] w fun e w' => KnR E.ats e w' ∧ Ext w w' := by
  have hwa : wA E.ats ≤ 1000000 := by unfold wE at hw; omega
  have hgl := wA_ge E.ats
  have hfm : ∀ x ∈ E.ats, x.typ.length ≤ 1000000 ∧ x.vals.length ≤ 1000000 ∧ ∀ u ∈ x.vals, u.length ≤ 1000000 := fun x hx => by
    have h1 := wA_mem hx
    have h2 := wV_ge x.vals
    exact ⟨by omega, by omega, fun u hu => by have := wV_mem hu; omega⟩
  have hax := fun {wx : World} (x : Ext w wx) => (ha.ext x).open_
  obtain ⟨A, c, hva, -⟩ := ha.open_
  obtain ⟨A0, c0, hvd⟩ := Rc.shape hd
  obtain ⟨m, hm⟩ : ∃ n, n = E.ats.length := ⟨_, rfl⟩
  obtain ⟨m0, hm0⟩ : ∃ n, n = E.dn.length := ⟨_, rfl⟩
  rw [← hm] at hva hgl
  rw [← hm0] at hvd
  subst hva
  subst hvd
  have hM : m ≤ 1000000 := by omega
  obtain ⟨w1, hw1⟩ : ∃ x, x = w.alloc (.cells #[.slice A0 m0 c0, .slice A m c] 31) := ⟨_, rfl⟩
  obtain ⟨p, hp⟩ : ∃ p, p = w.heap.size := ⟨_, rfl⟩
  have x1 : Ext w w1 := by rw [hw1]; exact (Mod.refl _ w).alloc _
  have BP : Blk w1 p 31 #[.slice A0 m0 c0, .slice A m c] := by rw [hw1, hp]; exact Blk.new w _ _
  have hpc : ∀ {wx : World}, Ext w1 wx → wx.cell? ⟨p, 1, none⟩ = some (.slice A m c) := fun x => (BP.mod x (fun h => h)).cell 1
  have hpd : ∀ {wx : World}, Ext w1 wx → wx.cell? ⟨p, 0, none⟩ = some (.slice A0 m0 c0) := fun x => (BP.mod x (fun h => h)).cell 0
  replace hm := Lib.hid hm
  replace hm0 := Lib.hid hm0
  replace hw1 := Lib.hid hw1
  replace hp := Lib.hid hp
  clear BP hw
  have ht := types_any (w := w1)
  have htc := fun wx : World => classes_any (w := wx)
  go_enter Try.func22, Try.ntmps22
  go_upto_region 1 with fail
  rw [← hw1.out, ← hp.out]
  clear hw1 hp
  go_wp2_with fail
  refine ht.mono ?_
  rintro e w2 ⟨bt, rfl, -, hMt, x2⟩
  clear ht
  go_wp2_with fail
  refine (htc w2).mono ?_
  rintro e w3 ⟨bc, rfl, hMc, -, x3⟩
  clear htc
  obtain ⟨D, d1, d2, d3⟩ := clR_open (w := w) (D := []) hMc
  have y3 : Ext w1 w3 := ext_trans x2 x3
  have z3 : Ext w w3 := ext_trans x1 y3
  have hkt : ∀ {wx : World}, Ext w3 wx → MpAt wx bt tyD := fun q => hMt.mod (ext_trans x3 q) (fun h => h)
  have hkc : ∀ {wx : World}, Ext w3 wx → MpAt wx bc D := fun q => d1.mod q (fun h => h)
  have n3 := NmAt.nil w3
  have p3 := hpc y3
  obtain ⟨B, hB⟩ : ∃ B, B = w3.heap.size := ⟨_, rfl⟩
  rw [← hB] at n3
  clear hMt hMc d1 x2 x3
  replace d2 := Lib.hid d2
  go_wp2_with fail
  go_loopw [6, 21] (fun v i wr => ∃ k : Nat, k ≤ m ∧ i = .int .i64 k ∧ Hid (knownE (E.ats.take k)) ∧ NmAt wr B v (namedE (E.ats.take k)) ∧ Ext w3 wr) (fun _ i _ => m - (intOf i).toNat)
  case atStart => exact ⟨0, Nat.zero_le _, rfl, Lib.hid (fun a ha => by cases ha), n3, Mod.refl _ _⟩
  case round =>
    clear n3 p3
    rename_i sv0 _ wr
    obtain ⟨k, hk, rfl, hkd, hnm, hx⟩ := hrel
    by_cases hlt : k < m
    case neg =>
      have hbl : decide ((k : Int) < (m : Int)) = false := dfalseI (by omega)
      have hbn : decide (k < m) = false := dfalseI (by omega)
      rw [List.take_of_length_le (by have := hm.out; omega)] at hkd hnm
      go_wp2_with fail
      go_ret2
      exact ⟨Or.inr ⟨hkd.out, _, _, rfl, hnm⟩, ext_trans z3 hx⟩
    have hbl : decide ((k : Int) < (m : Int)) = true := dtrueI (by omega)
    have hbn : decide (k < m) = true := dtrueI (by omega)
    have l1 : k < E.ats.length := by have := hm.out; omega
    obtain ⟨A', c', hv, hat⟩ := hax (Mod.refl _ w)
    obtain ⟨ad, y, hA, a0w, a1w, hy⟩ := hat k l1
    have a0 := ext_cell (ext_trans z3 hx) a0w
    have a1 := ext_cell (ext_trans z3 hx) a1w
    clear a0w a1w
    injection hv with hv1 hvl hv3
    clear hvl
    subst hv1
    subst hv3
    subst hA
    have hkn := knownE_next E.ats l1
    have hnn := namedE_next E.ats l1
    have hfx := hfm _ (List.getElem_mem l1)
    have hxm : E.ats[k] ∈ E.ats := List.getElem_mem l1
    have hxk : E.ats[k]? = some E.ats[k] := List.getElem?_eq_getElem l1
    generalize E.ats[k] = x at *
    have hi0 : (0 : Int) ≤ (k : Int) := by omega
    have hi1 : (k : Int) < (m : Int) := by omega
    obtain ⟨Ay, cy, hvy, -, -, -, -⟩ := hy.open_
    obtain ⟨nx, hnx⟩ : ∃ n, n = x.vals.length := ⟨_, rfl⟩
    rw [← hnx] at hvy
    subst hvy
    replace hnx := Lib.hid hnx
    obtain ⟨wa, hwa⟩ : ∃ wa, wa = wr.alloc (.cells #[sv x.typ, .slice Ay nx cy] 43) := ⟨_, rfl⟩
    obtain ⟨ga, hga⟩ : ∃ ga, ga = wr.heap.size := ⟨_, rfl⟩
    have xa : Ext wr wa := by rw [hwa]; exact (Mod.refl _ wr).alloc _
    have BA : Blk wa ga 43 #[sv x.typ, .slice Ay nx cy] := by rw [hwa, hga]; exact Blk.new wr _ _
    have b0 : wa.cell? ⟨ga, 0, none⟩ = some (sv x.typ) := BA.cell 0
    have hbc : ∀ {wx : World}, Ext wa wx → wx.cell? ⟨ga, 0, none⟩ = some (sv x.typ) ∧ wx.cell? ⟨ga, 1, none⟩ = some (.slice Ay nx cy) := fun x => ⟨(BA.mod x (fun h => h)).cell 0, (BA.mod x (fun h => h)).cell 1⟩
    have hya : ∀ {wx : World}, Ext w wx → Ts wx AllE (.slice Ay nx cy) x.vals := fun q => hy.ext q
    replace hwa := Lib.hid hwa
    replace hga := Lib.hid hga
    clear hat l1
    go_upto_region 6 with fail
    rw [← hwa.out, ← hga.out]
    clear hwa hga a0 a1
    have hf1 := fold_any (w := wa) x.typ (by have := hfx.1; omega)
    obtain ⟨G, hG⟩ : ∃ G, G = foldB x.typ := ⟨_, rfl⟩
    rw [← hG] at hf1
    replace hG := Lib.hid hG
    go_wp2_with fail
    refine hf1.mono ?_
    rintro e' w4 ⟨rfl, x4⟩
    clear hf1
    have xa4 := ext_trans xa x4
    have y4 := ext_trans hx xa4
    have hMt := hkt y4
    obtain ⟨b0', b1'⟩ := hbc x4
    clear b0
    cases hlk : lk ⟨G.toArray⟩ tyD with
    | none =>
      have hbad : Hid (¬ knownE E.ats) := Lib.hid fun q => by
        have := (q x hxm).1
        rw [← hG.out, hlk] at this
        cases this
      clear hkn hnn hkd hnm
      go_wp2_with ((with_reducible show wpList _ _ _ (⟨_, Op.lookup _ _ _ _, _, _, _, _⟩ :: _) _ _); refine wp_look hMt Try.underlying49 Try.underlying9 zeroK rfl _ _ rfl rfl rfl ?_; rw [hlk]; simp only [Option.getD, Option.isSome])
      go_ret2
      exact ⟨Or.inl ⟨hbad.out, rfl⟩, ext_trans z3 (y4.alloc _)⟩
    | some vk =>
      obtain ⟨nk, qk, rfl⟩ : ∃ n q, vk = .agg #[.int .i64 n, .bool q] := ⟨_, _, (lk_in hlk).2⟩
      obtain ⟨w5, hw5⟩ : ∃ w5, w5 = w4.alloc (.cells #[.int .i64 nk, .bool qk] 51) := ⟨_, rfl⟩
      have x5 : Ext w4 w5 := by rw [hw5]; exact (Mod.refl _ w4).alloc _
      have xr5 := ext_trans xa4 x5
      have y5 := ext_trans hx xr5
      have hnm5 := hnm.ext xr5
      obtain ⟨b2, b3⟩ := hbc (ext_trans x4 x5)
      replace hw5 := Lib.hid hw5
      clear b0' b1'
      go_upto_region 10 with ((with_reducible show wpList _ _ _ (⟨_, Op.lookup _ _ _ _, _, _, _, _⟩ :: _) _ _); refine wp_look hMt Try.underlying49 Try.underlying9 zeroK rfl _ _ rfl rfl rfl ?_; rw [hlk]; simp only [Option.getD, Option.isSome])
      rw [← hw5.out]
      clear hw5 hMt
      by_cases hoc : G = ocB
      case neg =>
        have q1 : (G != [111, 98, 106, 101, 99, 116, 99, 108, 97, 115, 115]) = true := by rw [bne_iff_ne]; exact hoc
        have q2 : (G == [111, 98, 106, 101, 99, 116, 99, 108, 97, 115, 115]) = false := by rw [beq_eq_false_iff_ne]; exact hoc
        have hk2 : Hid (knownE (E.ats.take (k + 1))) := Lib.hid (hkn.2 ⟨hkd.out, by rw [← hG.out, hlk]; rfl, fun q => absurd (hG.out.trans q) hoc⟩)
        have hn2 : Hid (namedE (E.ats.take (k + 1)) = namedE (E.ats.take k)) := Lib.hid (by rw [hnn]; unfold selE; rw [if_neg (by rw [← hG.out]; exact hoc)]; simp)
        clear hkn hnn hkd hnm hlk hG
        go_wp2_with fail
        exact ⟨⟨k + 1, by omega, by go_num, hk2, by rw [hn2.out]; exact hnm5, y5⟩, by simp [intOf] <;> omega⟩
      have q1 : (G != [111, 98, 106, 101, 99, 116, 99, 108, 97, 115, 115]) = false := by rw [bne_eq_false_iff_eq]; exact hoc
      have q2 : (G == [111, 98, 106, 101, 99, 116, 99, 108, 97, 115, 115]) = true := by rw [beq_iff_eq]; exact hoc
      have hsel : selE ocB x = x.vals := by unfold selE; rw [if_pos (by rw [← hG.out]; exact hoc)]
      rw [hsel] at hnn
      have hkA : Hid ((∀ u ∈ x.vals, (clP (foldB u)).isSome = true) → knownE (E.ats.take (k + 1))) := Lib.hid fun q => hkn.2 ⟨hkd.out, by rw [← hG.out, hlk]; rfl, fun _ => q⟩
      have hkB : Hid (∀ u ∈ x.vals, clP (foldB u) = none → ¬ knownE E.ats) := Lib.hid fun u hu q r => by
        have := (r x hxm).2 (hG.out.symm.trans hoc) u hu
        rw [q] at this
        cases this
      have hvf := hfx.2
      have hlen : (namedE (E.ats.take k)).length ≤ 1000000 := by
        have h1 := selE_len ocB (E.ats.take k)
        have h2 := sumF_take atW E.ats k
        rw [← wA_sum, ← wA_sum] at h2
        rw [List.length_map]
        show ((E.ats.take k).flatMap (selE ocB)).length ≤ _
        omega
      obtain ⟨N0, hN0⟩ : ∃ N0, N0 = namedE (E.ats.take k) := ⟨_, rfl⟩
      rw [← hN0] at hnm5 hnn hlen
      replace hnn := Lib.hid hnn
      replace hsel := Lib.hid hsel
      replace hlk := Lib.hid hlk
      clear hkn hkd hnm hG hoc hN0
      go_wp2_with fail
      go_loopw [6, 41] (fun v i wq => ∃ j : Nat, j ≤ nx ∧ i = .int .i64 j ∧ Hid (∀ u ∈ x.vals.take j, (clP (foldB u)).isSome = true) ∧ NmAt wq B v (N0 ++ (x.vals.take j).map clD) ∧ Ext w3 wq) (fun _ i _ => nx - (intOf i).toNat)
      case atStart => exact ⟨0, Nat.zero_le _, rfl, Lib.hid (fun a ha => by cases ha), by rw [List.take_zero, List.map_nil, List.append_nil]; exact hnm5, y5⟩
      case round =>
        clear hnm5 b2 b3
        obtain ⟨j, hj, rfl, hjk, hnq, hxq⟩ := hrel
        by_cases hjl : j < nx
        case neg =>
          have hbj : decide ((j : Int) < (nx : Int)) = false := dfalseI (by omega)
          have hbj' : decide (j < nx) = false := dfalseI (by omega)
          rw [List.take_of_length_le (by have := hnx.out; omega)] at hjk hnq
          have hk2 := Lib.hid (hkA.out hjk.out)
          go_wp2_with fail
          exact ⟨⟨k + 1, by omega, by go_num, hk2, by rw [hnn.out]; exact hnq, hxq⟩, by simp [intOf] <;> omega⟩
        have hbj : decide ((j : Int) < (nx : Int)) = true := dtrueI (by omega)
        have hbj' : decide (j < nx) = true := dtrueI (by omega)
        have l2 : j < x.vals.length := by have := hnx.out; omega
        obtain ⟨Az, cz, hvz, -, -, -, hcz⟩ := Sl.open_ (hya (ext_trans z3 hxq))
        injection hvz with e1 e2 e3
        subst e1
        subst e3
        clear e2
        obtain ⟨ad2, hA2, -, c2⟩ := Cells.at_ hcz l2
        subst hA2
        have htk : x.vals.take (j + 1) = x.vals.take j ++ [x.vals[j]] := List.take_succ_eq_append_getElem l2
        have hum : x.vals[j] ∈ x.vals := List.getElem_mem l2
        generalize x.vals[j] = u at *
        have hf2 := fold_any (w := wr) u (by have := hvf.2 u hum; omega)
        have hj0 : (0 : Int) ≤ (j : Int) := by omega
        have hj1 : (j : Int) < (nx : Int) := by omega
        replace htk := Lib.hid htk
        clear hcz
        go_wp2_with fail
        refine hf2.mono ?_
        rintro e' w6 ⟨rfl, x6⟩
        have y6 := ext_trans hxq x6
        have z6 := y6
        have hMc := hkc z6
        clear hf2 c2
        cases hcl : clP (foldB u) with
        | none =>
          have hbad := Lib.hid (hkB.out u hum hcl)
          have hl0 := d2.out _ hcl
          clear hnq hcl
          go_wp2_with ((with_reducible show wpList _ _ _ (⟨_, Op.lookup _ _ _ _, _, _, _, _⟩ :: _) _ _); refine wp_look hMc Try.underlying66 Try.underlying9 kindZ rfl _ _ rfl rfl rfl ?_; rw [hl0]; simp only [Option.getD, Option.isSome])
          go_ret2
          exact ⟨Or.inl ⟨hbad.out, rfl⟩, ext_trans z3 (z6.alloc _)⟩
        | some c9 =>
          obtain ⟨Am, nm, cm, Ay2, ny, cy2, hl0, t1, t2⟩ := d3 _ _ hcl
          obtain ⟨w7, hw7⟩ : ∃ w7, w7 = w6.alloc (.cells #[.slice Am nm cm, .slice Ay2 ny cy2] 64) := ⟨_, rfl⟩
          obtain ⟨g7, hg7⟩ : ∃ g, g = w6.heap.size := ⟨_, rfl⟩
          have x7 : Ext w6 w7 := by rw [hw7]; exact (Mod.refl _ w6).alloc _
          have B7 : Blk w7 g7 64 #[.slice Am nm cm, .slice Ay2 ny cy2] := by rw [hw7, hg7]; exact Blk.new w6 _ _
          have k0 : w7.cell? ⟨g7, 0, none⟩ = some (.slice Am nm cm) := B7.cell 0
          have k1 : w7.cell? ⟨g7, 1, none⟩ = some (.slice Ay2 ny cy2) := B7.cell 1
          have z7 := ext_trans z6 x7
          have u1 := t1.ext z7
          have u2 := t2.ext z7
          rw [← hB] at u1 u2
          have hcd : clD u = c9 := by unfold clD; rw [hcl]; rfl
          have hjk2 : Hid (∀ v ∈ x.vals.take (j + 1), (clP (foldB v)).isSome = true) := Lib.hid (by
            rw [htk.out]
            intro v hv
            rcases List.mem_append.1 hv with q | q
            · exact hjk.out v q
            · rw [List.mem_singleton.1 q, hcl]; rfl)
          obtain ⟨C, o1, f1, s1, l1, r1⟩ := hnq.ext (ext_trans x6 x7)
          have hnB : (C.length + 1) * 48 ≤ 140737488355328 := by
            rw [l1, List.length_append, List.length_map, List.length_take]
            have := hvf.1
            omega
          have hmap : Hid ((N0 ++ (x.vals.take j).map clD) ++ [c9] = N0 ++ (x.vals.take (j + 1)).map clD) := Lib.hid (by rw [htk.out, List.map_append, List.map_cons, List.map_nil, hcd, List.append_assoc])
          replace hw7 := Lib.hid hw7
          replace hg7 := Lib.hid hg7
          replace hcl := Lib.hid hcl
          replace hcd := Lib.hid hcd
          clear hnq hjk B7
          go_upto_region 17 with ((with_reducible show wpList _ _ _ (⟨_, Op.lookup _ _ _ _, _, _, _, _⟩ :: _) _ _); refine wp_look hMc Try.underlying66 Try.underlying9 kindZ rfl _ _ rfl rfl rfl ?_; rw [hl0]; simp only [Option.getD, Option.isSome])
          rw [← hw7.out, ← hg7.out]
          clear hw7 hg7
          go_wp2_with ((with_reducible show wpList _ _ _ (⟨some 57, _, _, _, _, _⟩ :: _) _ _); refine wp_appR tyCl enc2_len (x := (.slice Am nm cm, .slice Ay2 ny cy2)) o1 rfl enc2_ok hnB rfl (.tmp 54) (.tmp 56) rfl rfl rfl ?_; intro v8 w8 k1' k2' k3')
          have hnew := NmAt.more f1 s1 l1 r1 u1 u2 k1' k2' k3'
          rw [hmap.out] at hnew
          have x8 : Ext w3 w8 := (ext_trans y6 x7).trans k2' (fun _ _ h => h) (fun b hb h => by have := f1 b h; omega)
          exact ⟨⟨j + 1, by omega, by go_num, hjk2, hnew, x8⟩, by simp [intOf] <;> omega⟩
end Go.Proofs.Ytdfjldlfimbimaa
