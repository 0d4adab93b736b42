/- schema: what the classes ask is there, and nothing else. -/
import Derived.Test.YtdfjldlfimbimaaScE
import Derived.Test.YtdfjldlfimbimaaIxF
namespace Go.Proofs.Ytdfjldlfimbimaa
open Go.RowKit Go.Maps
set_option maxRecDepth 100000

theorem NmAt.open_ {w : World} {B : Nat} {v : Value} {N : List (Tx × Tx)} (h : NmAt w B v N) : ∃ A c, v = .slice A N.length c ∧ ∀ (i : Nat) (hi : i < N.length), ∃ ad A1 c1 A2 c2, A = some ad ∧ w.cell? (ad.add (i * 2)) = some (.slice A1 N[i].1.length c1) ∧ w.cell? ⟨(ad.add (i * 2)).block, (ad.add (i * 2)).off + 1, none⟩ = some (.slice A2 N[i].2.length c2) ∧ Ts w AllE (.slice A1 N[i].1.length c1) N[i].1 ∧ Ts w AllE (.slice A2 N[i].2.length c2) N[i].2 := by
  obtain ⟨C, h1, _, _, h2, h3⟩ := h
  obtain ⟨A, c, rfl, _, _, _, h4⟩ := (OwnR.rc h1).open_ enc2_len
  refine ⟨A, c, by rw [h2], fun i hi => ?_⟩
  have hc : i < C.length := by omega
  obtain ⟨ad, e1, _, c0⟩ := h4 i 0 C[i].1 hc (by omega) rfl
  obtain ⟨ad', e1', _, c1⟩ := h4 i 1 C[i].2 hc (by omega) rfl
  rw [e1] at e1'
  injection e1' with e1'
  subst e1'
  rw [Nat.add_zero] at c0
  rw [add_next _ _ _ (by omega)] at c1
  obtain ⟨t1, t2⟩ := h3 i C[i] N[i] (by simp [hc]) (by simp [hi])
  obtain ⟨A1, c1', e2, -⟩ := Sl.open_ t1
  obtain ⟨A2, c2', e3, -⟩ := Sl.open_ t2
  have u1 := t1.mono (T := AllE) (fun _ _ _ => trivial)
  have u2 := t2.mono (T := AllE) (fun _ _ _ => trivial)
  rw [e2] at c0 u1
  rw [e3] at c1 u2
  exact ⟨ad, A1, c1', A2, c2', e1, c0, c1, u1, u2⟩
abbrev letC (c : Tx × Tx) : Tx := c.1 ++ c.2
abbrev letsL (N : List (Tx × Tx)) : Tx := ocB :: N.flatMap letC
theorem lets_next (N : List (Tx × Tx)) {k : Nat} (h : k < N.length) : letsL (N.take (k + 1)) = letsL (N.take k) ++ N[k].1 ++ N[k].2 := by
  show ocB :: (N.take (k + 1)).flatMap letC = ocB :: (N.take k).flatMap letC ++ N[k].1 ++ N[k].2
  rw [List.take_succ_eq_append_getElem h, List.flatMap_append, List.flatMap_cons, List.flatMap_nil, List.append_nil]
  show _ = (ocB :: (N.take k).flatMap letC ++ N[k].1) ++ N[k].2
  rw [List.append_assoc]
  rfl
theorem asked_iff {L : List Att} {N : List (Tx × Tx)} : askedE L N ↔ (∀ c ∈ N, ∀ m ∈ c.1, m ∈ L.map fo) ∧ ∀ x ∈ L.map fo, x ∈ letsL N := by
  have h2 : (∀ a ∈ L, foldB a.typ = ocB ∨ ∃ c ∈ N, foldB a.typ ∈ c.1 ∨ foldB a.typ ∈ c.2) ↔ ∀ x ∈ L.map fo, x ∈ letsL N := by
    constructor
    · intro h x hx
      obtain ⟨a, ha, rfl⟩ := List.mem_map.1 hx
      rcases h a ha with q | ⟨c, hc, q⟩
      · rw [show fo a = ocB from q]; exact List.mem_cons_self ..
      · exact List.mem_cons_of_mem _ (List.mem_flatMap.2 ⟨c, hc, List.mem_append.2 q⟩)
    · intro h a ha
      rcases List.mem_cons.1 (h (fo a) (List.mem_map_of_mem ha)) with q | q
      · exact .inl q
      · obtain ⟨c, hc, q⟩ := List.mem_flatMap.1 q
        exact .inr ⟨c, hc, List.mem_append.1 q⟩
  unfold askedE
  rw [h2]
theorem keyOc : keyOf Try.prog 9 (.string ⟨#[111, 98, 106, 101, 99, 116, 99, 108, 97, 115, 115]⟩) = some (.string ocB) := keyOf_sv ocB (by decide)
theorem wp_insU {H : Type} {P : Program} {w : World} {ops : Array Oper} {rest : List Oper} {o : Oper} {a : Act} {Q : Exit → Act → World → Prop}
    (hg : o.guard = none) (m x v : Operand) (t : TypeId) (hop : o.op = Op.insert t m x v)
    (k e : TypeId) (K : Keyed P k) (ht : P.underlying t = some (.map k e)) (R : Value → Option (DataW H × List MemPlace)) (b n : Nat) (D : DataW H)
    (hm : a.eval m = .map (some b)) (hown : w.ownsMap P k R b n D) (hn : n < maxLen) (key val : Value) (kl : Lit) (hx : a.eval x = key) (hv : a.eval v = val) (hkey : keyOf P k key = some kl)
    (d : DataW H) (ps : List MemPlace) (hval : R val = some (d, ps))
    (hK : ∀ w', w'.ownsMap P k R b (n + 1) (D.put kl d) → w.grownBy w' (some b) → wpList P ops Q rest (a.put o.dst undef) w') :
    wpList P ops Q (o :: rest) a w := by
  refine wpList_plain hg fun K' hK' => ?_
  obtain ⟨w', hrun, r1, r2⟩ := hown.update K ht hn hkey hval
  unfold Oper.wp
  simp [execOp, hop, hm, hx, hv, hrun, Result.andThen]
  exact hK' _ _ (hK w' r1 r2)
set_option maxHeartbeats 64000000 in
theorem sasked_any {w : World} {vd va vn : Value} {E : Ent} {N : List (Tx × Tx)} {B : Nat} (hd : As w AllE vd E.dn) (ha : Ats w va E.ats) (hw : wE E ≤ 1000000) (hnm : NmAt w B vn N) (hN : N.length ≤ 1000000) (hNc : ∀ c ∈ N, c.1.length + c.2.length ≤ 100 ∧ ∀ t ∈ letC c, t.length ≤ 1000) :
    Calls Try.prog 24 #[.agg #[vd, va], vn] w fun e w' => e = .returned (.bool (decide (askedE E.ats N))) ∧ Ext w w' := by
  have hwa : wA E.ats ≤ 1000000 := by unfold wE at hw; omega
  have hgl := wA_ge E.ats
  have hfm : ∀ x ∈ E.ats, x.typ.length ≤ 1000000 ∧ x.vals.length ≤ 1000000 ∧ ∀ u ∈ x.vals, u.length ≤ 1000000 := fun x hx => by
    have h1 := wA_mem hx
    have h2 := wV_ge x.vals
    exact ⟨by omega, by omega, fun u hu => by have := wV_mem hu; omega⟩
  have hax := fun {wx : World} (x : Ext w wx) => (ha.ext x).open_
  obtain ⟨A, c, hva, -⟩ := ha.open_
  obtain ⟨A0, c0, hvd⟩ := Rc.shape hd
  obtain ⟨m, hm⟩ : ∃ n, n = E.ats.length := ⟨_, rfl⟩
  obtain ⟨m0, hm0⟩ : ∃ n, n = E.dn.length := ⟨_, rfl⟩
  rw [← hm] at hva hgl
  rw [← hm0] at hvd
  subst hva
  subst hvd
  have hM : m ≤ 1000000 := by omega
  obtain ⟨w1, hw1⟩ : ∃ x, x = w.alloc (.cells #[.slice A0 m0 c0, .slice A m c] 31) := ⟨_, rfl⟩
  obtain ⟨p, hp⟩ : ∃ p, p = w.heap.size := ⟨_, rfl⟩
  have x1 : Ext w w1 := by rw [hw1]; exact (Mod.refl _ w).alloc _
  have BP : Blk w1 p 31 #[.slice A0 m0 c0, .slice A m c] := by rw [hw1, hp]; exact Blk.new w _ _
  have hpc : ∀ {wx : World}, Ext w1 wx → wx.cell? ⟨p, 1, none⟩ = some (.slice A m c) := fun x => (BP.mod x (fun h => h)).cell 1
  have hpd : ∀ {wx : World}, Ext w1 wx → wx.cell? ⟨p, 0, none⟩ = some (.slice A0 m0 c0) := fun x => (BP.mod x (fun h => h)).cell 0
  replace hm := Lib.hid hm
  replace hm0 := Lib.hid hm0
  replace hw1 := Lib.hid hw1
  replace hp := Lib.hid hp
  clear BP hw
  have hmm : ∀ wx : World, (Instr.makeMap 68 none).run Try.prog wx = .ok (.map (some wx.heap.size)) (wx.alloc (.map #[] 0)) := fun wx => by simp [Instr.makeMap, Result.andThen]
  obtain ⟨An, cn, hvn, -⟩ := hnm.open_
  obtain ⟨nn, hnn0⟩ : ∃ n, n = N.length := ⟨_, rfl⟩
  rw [← hnn0] at hvn hN
  subst hvn
  replace hnn0 := Lib.hid hnn0
  have hno := fun {wx : World} (x : Ext w wx) => (hnm.ext x).open_
  clear hnm
  go_enter Try.func24, Try.ntmps24
  go_upto_region 1 with fail
  rw [← hw1.out, ← hp.out]
  clear hw1 hp
  have M0 : SetU (w1.alloc (.map #[] 0)) w1.heap.size 0 (.map []) := World.ownsMap_made _ _ _ _
  have x3 : Ext w1 (w1.alloc (.map #[] 0)) := (Mod.refl _ w1).alloc _
  have p3 := hpc x3
  obtain ⟨bh, hbh⟩ : ∃ b, b = w1.heap.size := ⟨_, rfl⟩
  go_wp2_with fail
  rw [← hbh] at M0 ⊢
  obtain ⟨w3, hw3⟩ : ∃ x, x = w1.alloc (.map #[] 0) := ⟨_, rfl⟩
  rw [← hw3] at M0 x3 p3 ⊢
  have hb1 : w1.heap.size ≤ bh := by omega
  clear hw3 hbh hmm
  have hm2 : ∀ wx : World, (Instr.makeMap 68 none).run Try.prog wx = .ok (.map (some wx.heap.size)) (wx.alloc (.map #[] 0)) := fun wx => by simp [Instr.makeMap, Result.andThen]
  go_loopw [24] (fun i wr => ∃ (k : Nat) (D : DataW Unit), k ≤ m ∧ i = .int .i64 k ∧ SetU wr bh k D ∧ Hid (IsSet D ((E.ats.take k).map fo)) ∧ Ext w1 wr) (fun i _ => m - (intOf i).toNat)
  case atStart => exact ⟨0, _, Nat.zero_le _, rfl, M0, Lib.hid isSet_none, x3⟩
  case round =>
    clear M0 p3
    obtain ⟨k, D, hk, rfl, hM1, hS, hx⟩ := hrel
    by_cases hlt : k < m
    case pos =>
      have hbl : decide ((k : Int) < (m : Int)) = true := dtrueI (by omega)
      have hbn : decide (k < m) = true := dtrueI (by omega)
      have hmp : (E.ats.take (k + 1)).map fo = (E.ats.take k).map fo ++ [fo (E.ats[k]'(by have := hm.out; omega))] := by rw [List.take_succ_eq_append_getElem (by have := hm.out; omega), List.map_append]; rfl
      clear hm2 hno
      have l1 : k < E.ats.length := by have := hm.out; omega
      obtain ⟨A', c', hv, hat⟩ := hax (Mod.refl _ w)
      obtain ⟨ad, y, hA, a0w, a1w, hy⟩ := hat k l1
      have a0 := ext_cell (ext_trans x1 hx) a0w
      have a1 := ext_cell (ext_trans x1 hx) a1w
      clear a0w a1w
      injection hv with hv1 hvl hv3
      clear hvl
      subst hv1
      subst hv3
      subst hA
      have hkn := knownE_next E.ats l1
      have hnn := namedE_next E.ats l1
      have hfx := hfm _ (List.getElem_mem l1)
      have hxm : E.ats[k] ∈ E.ats := List.getElem_mem l1
      have hxk : E.ats[k]? = some E.ats[k] := List.getElem?_eq_getElem l1
      generalize E.ats[k] = x at *
      have hi0 : (0 : Int) ≤ (k : Int) := by omega
      have hi1 : (k : Int) < (m : Int) := by omega
      obtain ⟨Ay, cy, hvy, -, -, -, -⟩ := hy.open_
      obtain ⟨nx, hnx⟩ : ∃ n, n = x.vals.length := ⟨_, rfl⟩
      rw [← hnx] at hvy
      subst hvy
      replace hnx := Lib.hid hnx
      obtain ⟨wa, hwa⟩ : ∃ wa, wa = wr.alloc (.cells #[sv x.typ, .slice Ay nx cy] 43) := ⟨_, rfl⟩
      obtain ⟨ga, hga⟩ : ∃ ga, ga = wr.heap.size := ⟨_, rfl⟩
      have xa : Ext wr wa := by rw [hwa]; exact (Mod.refl _ wr).alloc _
      have BA : Blk wa ga 43 #[sv x.typ, .slice Ay nx cy] := by rw [hwa, hga]; exact Blk.new wr _ _
      have b0 : wa.cell? ⟨ga, 0, none⟩ = some (sv x.typ) := BA.cell 0
      have hbc : ∀ {wx : World}, Ext wa wx → wx.cell? ⟨ga, 0, none⟩ = some (sv x.typ) ∧ wx.cell? ⟨ga, 1, none⟩ = some (.slice Ay nx cy) := fun x => ⟨(BA.mod x (fun h => h)).cell 0, (BA.mod x (fun h => h)).cell 1⟩
      have hya : ∀ {wx : World}, Ext w wx → Ts wx AllE (.slice Ay nx cy) x.vals := fun q => hy.ext q
      have hgaw : wr.heap.size ≤ ga := by omega
      replace hwa := Lib.hid hwa
      replace hga := Lib.hid hga
      clear hat l1
      go_upto_region 5 with fail
      rw [← hwa.out, ← hga.out]
      clear hwa hga a0 a1
      have hf1 := fold_any (w := wa) x.typ (by have := hfx.1; omega)
      obtain ⟨G, hG⟩ : ∃ G, G = foldB x.typ := ⟨_, rfl⟩
      have hGl : G.length ≤ 1000000 := by rw [hG]; exact Nat.le_trans (foldB_len (s := x.typ)) hfx.1
      rw [← hG] at hf1
      replace hG := Lib.hid hG
      clear hkn hnn
      go_wp2_with fail
      refine hf1.mono ?_
      rintro e' w4 ⟨rfl, x4⟩
      clear hf1
      have xa4 := ext_trans xa x4
      have y4 := ext_trans hx xa4
      have M4 := ownsMap_mod hM1 xa4 (fun h => h)
      have hkey := keyOf_sv G (by omega)
      have hS2 : Hid (IsSet (D.put (.string G) (.agg [])) ((E.ats.take (k + 1)).map fo)) := Lib.hid (by rw [hmp, hG.out]; exact hS.out.put _)
      clear hmp hS b0
      go_wp2_with (at_mapUpdate; refine wpList_mapUpdate_own _ rfl _ _ _ 68 rfl 9 69 keyS Try.underlying68 _ bh k _ rfl M4 (by unfold maxLen; omega) _ _ _ rfl rfl hkey _ [] unitElem_mk ?_; intro w6 M6 g6)
      have x6 : Ext w1 w6 := y4.trans (Mod.of_grown (F := fun b => b = bh) g6 (fun b hb => by injection hb with hb; exact hb.symm)) (fun _ _ h => h) (fun b hb h => by omega)
      exact ⟨⟨k + 1, _, by omega, by go_num, M6, hS2, x6⟩, by simp [intOf] <;> omega⟩
    have hbl : decide ((k : Int) < (m : Int)) = false := dfalseI (by omega)
    have hbn : decide (k < m) = false := dfalseI (by omega)
    obtain ⟨k9, hk9⟩ : ∃ k9, k9 = k := ⟨_, rfl⟩
    rw [List.take_of_length_le (by have := hm.out; omega)] at hS
    rw [← hk9] at hM1
    clear hk9
    obtain ⟨H, hH⟩ : ∃ H, H = E.ats.map fo := ⟨_, rfl⟩
    rw [← hH] at hS
    have hres : Hid (askedE E.ats N ↔ (∀ c ∈ N, ∀ m ∈ c.1, m ∈ H) ∧ ∀ x ∈ H, x ∈ letsL N) := Lib.hid (by rw [hH]; exact asked_iff)
    replace hH := Lib.hid hH
    obtain ⟨Dh, hDh⟩ : ∃ Dh, Dh = D := ⟨_, rfl⟩
    rw [← hDh] at hM1 hS
    clear hDh D
    obtain ⟨bl, hbl2⟩ : ∃ b, b = wr.heap.size := ⟨_, rfl⟩
    have M7 : SetU (wr.alloc (.map #[] 0)) bl 0 (.map []) := by rw [hbl2]; exact World.ownsMap_made _ _ _ _
    have x7 : Ext w1 (wr.alloc (.map #[] 0)) := hx.alloc _
    have N7 := ownsMap_mod hM1 ((Mod.refl (fun _ => False) wr).alloc (.map #[] 0)) (fun h => h)
    have hne : bh ≠ bl := by have := hM1.lt; omega
    have hb1l : w1.heap.size ≤ bl := by have := hx.size; omega
    clear hM1 hx
    have hm3 : (Instr.makeMap 68 none).run Try.prog wr = .ok (.map (some bl)) (wr.alloc (.map #[] 0)) := by rw [hbl2]; exact hm2 wr
    clear hm2 hbl2
    go_wp2_with ((with_reducible show wpList _ _ _ (⟨none, Op.insert _ _ _ _, _, _, _, _⟩ :: _) _ _); refine wp_insU rfl _ _ _ 68 rfl 9 69 keyS Try.underlying68 _ bl 0 _ rfl M7 (by unfold maxLen; omega) _ _ _ rfl rfl keyOc _ [] unitElem_mk ?_; intro w8 M8 g8)
    have m8 : Mod (fun b => b = bl) (wr.alloc (.map #[] 0)) w8 := Mod.of_grown g8 (fun b hb => by injection hb with hb; exact hb.symm)
    have x8 : Ext w1 w8 := x7.trans m8 (fun _ _ h => h) (fun b hb h => by omega)
    have N8 := ownsMap_mod N7 m8 hne
    have S8 : Hid (IsSet (DataW.put (.map []) (.string ocB) (.agg [])) (letsL (N.take 0))) := Lib.hid (isSet_none.put ocB)
    clear M7 N7 m8 g8 x7 hm3
    go_loopw [39] (fun i wr => ∃ (k cnt : Nat) (D : DataW Unit), k ≤ nn ∧ i = .int .i64 k ∧ SetU wr bl cnt D ∧ cnt ≤ 1 + 100 * k ∧ Hid (IsSet D (letsL (N.take k))) ∧ Hid (∀ c ∈ N.take k, ∀ t ∈ c.1, t ∈ H) ∧ SetU wr bh k9 Dh ∧ Ext w1 wr) (fun i _ => nn - (intOf i).toNat)
    case atStart => exact ⟨0, 1, _, Nat.zero_le _, rfl, M8, by omega, S8, Lib.hid (fun c hc => by cases hc), N8, x8⟩
    case round =>
      clear M8 S8 N8 x8
      obtain ⟨k, cnt, D, hk, rfl, hM, hcn, hL, hmu, hN8, hx⟩ := hrel
      by_cases hlt : k < nn
      case neg =>
        have hbl : decide ((k : Int) < (nn : Int)) = false := dfalseI (by omega)
        have hbn : decide (k < nn) = false := dfalseI (by omega)
        rw [List.take_of_length_le (by have := hnn0.out; omega)] at hL hmu
        go_wp2_with (first
          | (at_range; refine wpList_range_own _ rfl _ 68 rfl 9 69 keyS Try.underlying68 _ bh k9 _ rfl hN8 ?_; intro w3' hrg0 hg0 hs0))
        go_frame
        have x3' : Ext wr w3' := Mod.of_grown hg0 (fun k e => by cases e)
        have y3' := ext_trans hx x3'
        have L3 := ownsMap_mod hM x3' (fun h => h)
        have hrr : w1.heap.size ≤ wr.heap.size := hx.size
        clear hM hN8 x3' hx hg0 hs0
        obtain ⟨r1, hr⟩ : ∃ r1, r1 = wr.heap.size := ⟨_, rfl⟩
        rw [← hr] at hrg0 hrr ⊢
        clear hr
        have hst : Hid (∀ x ∈ H, has Dh (.string x) = false → x ∈ letsL N) := Lib.hid fun x hxH h => by
          rw [hS.out.2 x, decide_eq_true hxH] at h
          cases h
        go_loopw [] (fun wr => ∃ left cnt2, wr.ranges Try.prog 9 unitElem bh r1 k9 Dh left cnt2 ∧ SetU wr bl cnt D ∧ Hid (∀ x ∈ H, left (.string x) = false → x ∈ letsL N) ∧ Ext w1 wr) (fun wr => wr.rangeLeft bh r1)
        case atStart => exact ⟨_, _, hrg0, L3, hst, y3'⟩
        case round =>
          clear hrg0 L3 hst y3'
          obtain ⟨left, cnt2, hrg, hM, hin, hx⟩ := hrel
          go_wp2_with (first
            | (at_next; refine wpList_next_ranges _ rfl _ rfl 9 keyS unitElem sv (fun _ : Unit => .agg #[]) invS invU bh r1 k9 _ _ _ rfl hrg ?_ ?_))
          · intro hc0 hl0
            have hyes : Hid (decide (askedE E.ats N) = true) := Lib.hid (dtrueI (hres.out.2 ⟨hmu.out, fun x hxH => hin.out x hxH (hl0 _)⟩))
            clear hrg hM hc0 hl0
            go_wp2_with fail
            go_ret
            exact ⟨by rw [hyes.out]; rfl, ext_trans x1 hx⟩
          · intro x c kl yd w4 cnt3 hkey hlk hv hat hrg2 hlt2 hg2 hs2 hen
            obtain ⟨rfl, hkl⟩ := keyIs hkey
            have hxH : x ∈ H := left_in hS.out hat
            have x4 : Mod (fun k => k = r1) wr w4 := Mod.of_grown hg2 (fun k e => by injection e with e; exact e.symm)
            have y4 : Ext w1 w4 := hx.trans x4 (fun _ _ h => h) (fun k hk h => by omega)
            have M4 := ownsMap_mod hM x4 (map_ne_iter hM hrg)
            have hhas := hL.out.2 x
            have hml := hrg.left_eq
            clear hg2 hs2 hrg hM hx x4 hv hat
            obtain ⟨q, hq⟩ : ∃ q, q = decide (x ∈ letsL N) := ⟨_, rfl⟩
            rw [← hq] at hhas
            replace hq := Lib.hid hq
            obtain ⟨w5, hw5⟩ : ∃ w5, w5 = w4.alloc (.cells #[] 69) := ⟨_, rfl⟩
            have x5 : Ext w4 w5 := by rw [hw5]; exact (Mod.refl _ w4).alloc _
            replace hw5 := Lib.hid hw5
            go_upto_region 29 with (at_lookup; refine wpList_lookup_own_unit _ rfl _ _ 68 rfl 9 69 keyS Try.underlying68 (zeroU _) bl cnt _ rfl M4 _ _ rfl hkey ?_; rw [hhas])
            rw [← hw5.out]
            have y5 := ext_trans y4 x5
            have hrg5 := ranges_mod hrg2 x5 (fun h => h) (fun h => h)
            have M5 := ownsMap_mod M4 x5 (fun h => h)
            clear y4 x5 hrg2 M4 hen hkey hhas
            cases q
            case true =>
              have hin2 : Hid (∀ z ∈ H, (left (.string z) && !(Lit.string z).sameKey (.string x)) = false → z ∈ letsL N) := Lib.hid fun z hz h => by
                rcases (strike_iff left x z).1 h with r | rfl
                · exact hin.out z hz r
                · exact of_decide_eq_true hq.out.symm
              go_wp2_with fail
              exact ⟨⟨_, cnt3, hrg5, M5, hin2, y5⟩, by rw [hrg5.left_eq, hml]; exact hlt2⟩
            have hno2 : Hid (decide (askedE E.ats N) = false) := Lib.hid (dfalseI fun h => of_decide_eq_false hq.out.symm ((hres.out.1 h).2 x hxH))
            clear hrg5 M5 hml hlt2
            go_wp2_with fail
            go_ret
            exact ⟨by rw [hno2.out]; rfl, ext_trans x1 y5⟩
      have hbl : decide ((k : Int) < (nn : Int)) = true := dtrueI (by omega)
      have hbn : decide (k < nn) = true := dtrueI (by omega)
      have l1 : k < N.length := by have := hnn0.out; omega
      obtain ⟨An', cn', hv, hcat⟩ := hno (Mod.refl _ w)
      obtain ⟨ad, A1, c1, A2, c2, hA, k0w, k1w, t1, t2⟩ := hcat k l1
      have k0 := ext_cell (ext_trans x1 hx) k0w
      have k1 := ext_cell (ext_trans x1 hx) k1w
      clear k0w k1w hcat
      injection hv with hv1 hvl hv3
      clear hvl
      subst hv1
      subst hv3
      subst hA
      have hln := lets_next N l1
      have hmn : N.take (k + 1) = N.take k ++ [N[k]] := List.take_succ_eq_append_getElem l1
      have hcc := hNc _ (List.getElem_mem l1)
      have hcm : N[k] ∈ N := List.getElem_mem l1
      generalize N[k] = cl at *
      have hi0 : (0 : Int) ≤ (k : Int) := by omega
      have hi1 : (k : Int) < (nn : Int) := by omega
      obtain ⟨n1, hn1⟩ : ∃ n, n = cl.1.length := ⟨_, rfl⟩
      obtain ⟨n2, hn2⟩ : ∃ n, n = cl.2.length := ⟨_, rfl⟩
      rw [← hn1] at k0 t1 hcc
      rw [← hn2] at k1 t2 hcc
      obtain ⟨hc1, hc2⟩ := hcc
      replace hc2 := Lib.hid hc2
      replace hn1 := Lib.hid hn1
      replace hn2 := Lib.hid hn2
      replace hln := Lib.hid hln
      replace hmn := Lib.hid hmn
      obtain ⟨wa, hwa⟩ : ∃ wa, wa = wr.alloc (.cells #[.slice A1 n1 c1, .slice A2 n2 c2] 64) := ⟨_, rfl⟩
      obtain ⟨ga, hga⟩ : ∃ ga, ga = wr.heap.size := ⟨_, rfl⟩
      have xa : Ext wr wa := by rw [hwa]; exact (Mod.refl _ wr).alloc _
      have BA : Blk wa ga 64 #[.slice A1 n1 c1, .slice A2 n2 c2] := by rw [hwa, hga]; exact Blk.new wr _ _
      have hgne : ga ≠ bl := by have := hM.lt; omega
      have b0 : wa.cell? ⟨ga, 0, none⟩ = some (.slice A1 n1 c1) := BA.cell 0
      have ya := ext_trans hx xa
      have Ma := ownsMap_mod hM xa (fun h => h)
      have Na := ownsMap_mod hN8 xa (fun h => h)
      replace hwa := Lib.hid hwa
      replace hga := Lib.hid hga
      clear hM hN8 l1
      go_upto_region 11 with fail
      rw [← hwa.out, ← hga.out]
      clear hwa hga k0 k1 xa hx
      go_wp2_with fail
      go_loopw [46] (fun i wr => ∃ (j cnt : Nat) (D : DataW Unit), j ≤ n1 ∧ i = .int .i64 j ∧ SetU wr bl cnt D ∧ cnt ≤ 1 + 100 * k + j ∧ Hid (IsSet D (letsL (N.take k) ++ cl.1.take j)) ∧ Hid (∀ t ∈ cl.1.take j, t ∈ H) ∧ SetU wr bh k9 Dh ∧ Blk wr ga 64 #[.slice A1 n1 c1, .slice A2 n2 c2] ∧ Ext w1 wr) (fun i _ => n1 - (intOf i).toNat)
      case atStart => exact ⟨0, cnt, D, Nat.zero_le _, rfl, Ma, by omega, by rw [List.take_zero, List.append_nil]; exact hL, Lib.hid (fun c hc => by cases hc), Na, BA, ya⟩
      case round =>
        clear Ma Na BA ya b0 hL D cnt hcn
        obtain ⟨j, cnt, D, hj, rfl, hM, hcn, hL, hmj, hN8, BA, hx⟩ := hrel
        by_cases hjl : j < n1
        case pos =>
          have hbj : decide ((j : Int) < (n1 : Int)) = true := dtrueI (by omega)
          have hbj' : decide (j < n1) = true := dtrueI (by omega)
          have l2 : j < cl.1.length := by have := hn1.out; omega
          obtain ⟨Az, cz, hvz, -, -, -, hcz⟩ := Sl.open_ (t1.ext (ext_trans x1 hx))
          injection hvz with e1 e2 e3
          subst e1
          subst e3
          clear e2
          obtain ⟨ad2, hA2, -, c9⟩ := Cells.at_ hcz l2
          subst hA2
          have htk : cl.1.take (j + 1) = cl.1.take j ++ [cl.1[j]] := List.take_succ_eq_append_getElem l2
          have hum : cl.1[j] ∈ cl.1 := List.getElem_mem l2
          generalize cl.1[j] = u at *
          have hul := hc2.out u (List.mem_append_left _ hum)
          have hkey := keyOf_sv u (by omega)
          have hj0 : (0 : Int) ≤ (j : Int) := by omega
          have hj1 : (j : Int) < (n1 : Int) := by omega
          replace htk := Lib.hid htk
          have hhas := hS.out.2 u
          obtain ⟨q, hq⟩ : ∃ q, q = decide (u ∈ H) := ⟨_, rfl⟩
          rw [← hq] at hhas
          replace hq := Lib.hid hq
          obtain ⟨w5, hw5⟩ : ∃ w5, w5 = wr.alloc (.cells #[] 69) := ⟨_, rfl⟩
          have x5 : Ext wr w5 := by rw [hw5]; exact (Mod.refl _ wr).alloc _
          have y5 := ext_trans hx x5
          have M5 := ownsMap_mod hM x5 (fun h => h)
          have N5 := ownsMap_mod hN8 x5 (fun h => h)
          have B5 := BA.mod x5 (fun h => h)
          replace hw5 := Lib.hid hw5
          clear hcz
          go_upto_region 15 with (at_lookup; refine wpList_lookup_own_unit _ rfl _ _ 68 rfl 9 69 keyS Try.underlying68 (zeroU _) bh k9 _ rfl hN8 _ _ rfl hkey ?_; rw [hhas])
          rw [← hw5.out]
          clear hw5 hM hN8 BA hx x5 hhas c9
          cases q
          case false =>
            have hno2 : Hid (decide (askedE E.ats N) = false) := Lib.hid (dfalseI fun h => of_decide_eq_false hq.out.symm ((hres.out.1 h).1 cl hcm u hum))
            clear M5 N5 B5
            go_wp2_with fail
            go_ret
            exact ⟨by rw [hno2.out]; rfl, ext_trans x1 y5⟩
          have huH : u ∈ H := of_decide_eq_true hq.out.symm
          have hL2 : Hid (IsSet (D.put (.string u) (.agg [])) (letsL (N.take k) ++ cl.1.take (j + 1))) := Lib.hid (by rw [htk.out, ← List.append_assoc]; exact hL.out.put u)
          have hm2 : Hid (∀ t ∈ cl.1.take (j + 1), t ∈ H) := Lib.hid (by
            rw [htk.out]
            intro t ht
            rcases List.mem_append.1 ht with r | r
            · exact hmj.out t r
            · rw [List.mem_singleton.1 r]; exact huH)
          clear hL hmj
          go_wp2_with (at_mapUpdate; refine wpList_mapUpdate_own _ rfl _ _ _ 68 rfl 9 69 keyS Try.underlying68 _ bl cnt _ rfl M5 (by unfold maxLen; omega) _ _ _ rfl rfl hkey _ [] unitElem_mk ?_; intro w6 M6 g6)
          have g7 : Mod (fun b => b = bl) w5 w6 := Mod.of_grown g6 (fun b hb => by injection hb with hb; exact hb.symm)
          have x6 : Ext w1 w6 := y5.trans g7 (fun _ _ h => h) (fun b hb h => by omega)
          exact ⟨⟨j + 1, cnt + 1, _, by omega, by go_num, M6, by omega, hL2, hm2, ownsMap_mod N5 g7 hne, B5.mod g7 hgne, x6⟩, by simp [intOf] <;> omega⟩
        have hbj : decide ((j : Int) < (n1 : Int)) = false := dfalseI (by omega)
        have hbj' : decide (j < n1) = false := dfalseI (by omega)
        have hE : cl.1.take j = cl.1 := List.take_of_length_le (by have := hn1.out; omega)
        rw [hE] at hL hmj
        clear hE
        have hcn2 : cnt ≤ 1 + 100 * k + n1 := by omega
        have b1 : wr.cell? ⟨ga, 1, none⟩ = some (.slice A2 n2 c2) := BA.cell 1
        clear BA hcn
        go_wp2_with fail
        go_loopw [65] (fun i wr => ∃ (j cnt : Nat) (D : DataW Unit), j ≤ n2 ∧ i = .int .i64 j ∧ SetU wr bl cnt D ∧ cnt ≤ 1 + 100 * k + n1 + j ∧ Hid (IsSet D (letsL (N.take k) ++ cl.1 ++ cl.2.take j)) ∧ SetU wr bh k9 Dh ∧ Ext w1 wr) (fun i _ => n2 - (intOf i).toNat)
        case atStart => exact ⟨0, cnt, D, Nat.zero_le _, rfl, hM, by omega, by rw [List.take_zero, List.append_nil]; exact hL, hN8, hx⟩
        case round =>
          clear hM hN8 hx b1 hL hcn2 hbj hbj' hjl hj
          obtain ⟨j, cnt, D, hj, rfl, hM, hcn, hL, hN8, hx⟩ := hrel
          by_cases hjl : j < n2
          case neg =>
            have hbj : decide ((j : Int) < (n2 : Int)) = false := dfalseI (by omega)
            have hbj' : decide (j < n2) = false := dfalseI (by omega)
            have hE : cl.2.take j = cl.2 := List.take_of_length_le (by have := hn2.out; omega)
            rw [hE] at hL
            clear hE
            have hL2 : Hid (IsSet D (letsL (N.take (k + 1)))) := Lib.hid (by rw [hln.out]; exact hL.out)
            have hmu2 : Hid (∀ c ∈ N.take (k + 1), ∀ t ∈ c.1, t ∈ H) := Lib.hid (by
              rw [hmn.out]
              intro c hc
              rcases List.mem_append.1 hc with r | r
              · exact hmu.out c r
              · rw [List.mem_singleton.1 r]; exact hmj.out)
            clear hL hmu
            go_wp2_with fail
            exact ⟨⟨k + 1, cnt, D, by omega, by go_num, hM, by omega, hL2, hmu2, hN8, hx⟩, by simp [intOf] <;> omega⟩
          have hbj : decide ((j : Int) < (n2 : Int)) = true := dtrueI (by omega)
          have hbj' : decide (j < n2) = true := dtrueI (by omega)
          have l2 : j < cl.2.length := by have := hn2.out; omega
          obtain ⟨Az, cz, hvz, -, -, -, hcz⟩ := Sl.open_ (t2.ext (ext_trans x1 hx))
          injection hvz with e1 e2 e3
          subst e1
          subst e3
          clear e2
          obtain ⟨ad2, hA2, -, c9⟩ := Cells.at_ hcz l2
          subst hA2
          have htk : cl.2.take (j + 1) = cl.2.take j ++ [cl.2[j]] := List.take_succ_eq_append_getElem l2
          have hum : cl.2[j] ∈ cl.2 := List.getElem_mem l2
          generalize cl.2[j] = u at *
          have hul := hc2.out u (List.mem_append_right _ hum)
          have hkey := keyOf_sv u (by omega)
          have hj0 : (0 : Int) ≤ (j : Int) := by omega
          have hj1 : (j : Int) < (n2 : Int) := by omega
          have hL2 : Hid (IsSet (D.put (.string u) (.agg [])) (letsL (N.take k) ++ cl.1 ++ cl.2.take (j + 1))) := Lib.hid (by rw [htk, ← List.append_assoc]; exact hL.out.put u)
          clear hcz htk hL
          go_wp2_with (at_mapUpdate; refine wpList_mapUpdate_own _ rfl _ _ _ 68 rfl 9 69 keyS Try.underlying68 _ bl cnt _ rfl hM (by unfold maxLen; omega) _ _ _ rfl rfl hkey _ [] unitElem_mk ?_; intro w6 M6 g6)
          have g7 : Mod (fun b => b = bl) wr w6 := Mod.of_grown g6 (fun b hb => by injection hb with hb; exact hb.symm)
          have x6 : Ext w1 w6 := hx.trans g7 (fun _ _ h => h) (fun b hb h => by omega)
          exact ⟨⟨j + 1, cnt + 1, _, by omega, by go_num, M6, by omega, hL2, ownsMap_mod hN8 g7 hne, x6⟩, by simp [intOf] <;> omega⟩
end Go.Proofs.Ytdfjldlfimbimaa
