/- disk: the document's Rename, all of it. -/
import Derived.Test.YtblfhonfjljndaaDoorRdR
namespace Go.Proofs.YtblfhonfjljndaaDoor
open Go.RowKit Go.Maps Go.WideMaps
set_option maxRecDepth 100000

section
variable {S T F V : Nat → Prop} {w w' : World} {bd : Nat} {vL v : Value} {A : List (Fi × Value)} {d : Ds} {b : List UInt8}
theorem delF_comm (L : Fis) (x y : List UInt8) : delF (delF L x) y = delF (delF L y) x := by
  unfold delF
  rw [List.filter_filter, List.filter_filter]
  congr 1
  funext f
  exact Bool.and_comm _ _
theorem getF_delF (L : Fis) (x : List UInt8) : getF (delF L x) x = none := by
  unfold getF delF
  rw [List.find?_eq_none]
  intro f hf
  have := (List.mem_filter.1 hf).2
  simp only [bne_iff_ne, ne_eq] at this
  simp [this]
set_option maxHeartbeats 32000000 in
theorem rren_some {f : Fi} (h : RdAt S w bd vL A d) (x y : List UInt8) (hb : begD d [x, y] = 0) (hx : getF d.L x = some f) (hne : ¬ x = y) :
    Calls Tryd.prog 58 #[pv bd, sv x, sv y] w fun e w' => e = .returned (ev 0) ∧ Dz (Grow S w) w' (pv bd) (doneD { d with L := putF (delF (delF d.L x) y) ⟨y, f.b, f.last⟩ }) ∧ Mod S w w' := by
  have xa : Ext w (w.alloc (.cells #[sv x, sv y] 9)) := (Mod.refl _ _).alloc _
  have hcm := rmay_any (h.mod xa (fun _ _ _ h => h)) (two_names w x y) (by simp)
  rw [hb] at hcm
  have hcs := fun (w' : World) (x1 : Ext w w') => spot_any (h.mod x1 (fun _ _ _ h => h)) x
  obtain ⟨n, vb0, hiA, hn, hA, hvi⟩ := h.found hx
  rw [hx, ← hn] at hcs
  simp only [Option.isSome_some] at hcs
  have hxy : (x == y) = false := by rw [beq_eq_false_iff_ne]; exact hne
  have hlen := h.len
  have hSd := h.sd
  have hlt := h.blk.lt
  have hfl := h.fl f (getF_mem hx)
  have hroom := h.room
  have hmost := h.most
  have hfew := h.few
  have hmem := getF_mem hx
  have hrise := h.rise
  obtain ⟨s1, s2⟩ := sumB_delF (x := x) hrise
  rw [hx] at s1 s2
  simp only [lenB, one] at s1 s2
  obtain ⟨s3, s4⟩ := sumB_delF (x := y) (rise_delF hrise x)
  obtain ⟨ad0, c0, rfl, p1, p2, p3⟩ := h.at_
  obtain ⟨p, rfl⟩ := p3 (by omega)
  clear p3
  obtain ⟨B, cb, rfl, e1, e2, e3, e4⟩ := hvi.open_
  have hname := getF_name hx
  have hat := fun (w' : World) (x1 : Ext w w') => (h.row.ext x1).at3 (i := n) hiA
  rw [hA] at hat
  have hi0 : (0 : Int) ≤ (n : Int) := by omega
  have hi1 : (n : Int) < (d.L.length : Int) := by omega
  have hbd0 : ∀ {wx : World}, Ext w wx → wx.cell? ⟨bd, 1, none⟩ = some (.slice (some p) d.L.length c0) := fun q => (h.mod q (fun _ _ _ h => h)).blk.cell 1
  clear hb hx hn e4
  go_enter Tryd.func58, Tryd.ntmps58
  go_wp2_with fail
  refine hcm.mono ?_
  rintro e w1 ⟨rfl, x1⟩
  clear hcm
  replace hcs := hcs _ (ext_trans xa x1)
  go_wp2_with fail
  refine hcs.mono ?_
  rintro e w2 ⟨rfl, x2⟩
  have y2 := ext_trans (ext_trans xa x1) x2
  clear hcs xa x1 x2
  obtain ⟨r1, r2, r3, r4, r5, r6⟩ := hat _ y2
  have d2 := hbd0 y2
  clear hat r6 hbd0
  go_wp2_with fail
  have x3 : Ext w2 (w2.alloc (.cells #[sv y, .slice B f.b.length cb, .int .i64 (f.last : Int)] 74)) := (Mod.refl _ _).alloc _
  have y3 := ext_trans y2 x3
  have hcr := rem_at (h.mod y3 (fun _ _ _ h => h)) x
  have bF : Blk (w2.alloc (.cells #[sv y, .slice B f.b.length cb, .int .i64 (f.last : Int)] 74)) w2.heap.size 74 #[sv y, .slice B f.b.length cb, .int .i64 (f.last : Int)] := Blk.new _ _ _
  have hz2 := y2.size
  have hz3 := y3.size
  have hb3 : Bs _ (fun k => S k ∧ k ≠ bd) _ f.b := (hvi.mod y3 (fun _ _ _ h => h)).mono fun k _ hs => ⟨hs.1, hs.2.1⟩
  refine hcr.mono ?_
  rintro e w4 ⟨rfl, h4, m4⟩
  obtain ⟨vL1, A1, h4⟩ := h4.pv
  have bF4 := bF.mod m4 (by omega)
  have hb4 := hb3.mod m4 (fun k _ hs e => hs.2 e)
  have hcr2 := rem_at h4 y
  have hz4 := m4.size
  have mS4 : Mod S w w4 := (y3.mono (G := S) fun _ _ h => h.elim).then_ m4 fun k _ e => e ▸ hSd
  clear hcr h4 h bF hb3 hvi m4
  go_wp2_with fail
  refine hcr2.mono ?_
  rintro e w5 ⟨rfl, h5, m5⟩
  obtain ⟨vL2, A2, h5⟩ := h5.pv
  have bF5 := bF4.mod m5 (by omega)
  have hb5 := hb4.mod m5 (fun k _ hs e => hs.2 e)
  have hz5 := m5.size
  have mS5 : Mod S w w5 := mS4.then_ m5 fun k _ e => e ▸ hSd
  have hx5 : getF (delF (delF d.L x) y) y = none := getF_delF _ _
  have hcs5 := spot_any h5 y
  rw [hx5] at hcs5
  simp only [Option.isSome_none] at hcs5
  have hfew5 : (delF (delF d.L x) y).length < 4096 := by omega
  have hgr : ∀ k, Grow (Grow (Grow S (w2.alloc (.cells #[sv y, .slice B f.b.length cb, .int .i64 (f.last : Int)] 74))) w4) w5 k → Grow S w k := fun k hk => by
    rcases hk with ((hk | hk) | hk) | hk
    · exact .inl hk
    · exact .inr (by omega)
    · exact .inr (by omega)
    · exact .inr (by omega)
  have hfin := fun (v3 : Value) (w6 : World) (q : Ext w5 w6) (ho : OwnR fiv 3 w6 fileT v3 (putA A2 (posF (delF (delF d.L x) y) y) ((⟨y, f.b, f.last⟩ : Fi), Value.slice B f.b.length cb))) (hf : Fresh w5.heap.size v3) =>
    ren_fin (f := ⟨y, f.b, f.last⟩) h5 hx5 (hb5.mono fun k _ hs => ⟨.inl (.inl hs.1), hs.2⟩) hfl (by show sumB (delF (delF d.L x) y) + f.b.length ≤ d.room; omega) hfew5 q ho hf
  generalize hL2 : delF (delF d.L x) y = L2 at *
  replace hL2 := Lib.hid hL2
  obtain ⟨n2, hn2⟩ : ∃ n2, n2 = posF L2 y := ⟨_, rfl⟩
  have hnl2 := posF_le L2 y
  rw [← hn2] at hfin hcs5 hnl2
  have hlen5 : A2.length = L2.length := h5.len
  have hrow5 := h5.row
  have hone := fiv_one h5.slices
  have hbk5 : ∀ {wx : World}, Ext w5 wx → wx.cell? ⟨bd, 1, none⟩ = some vL2 ∧ wx.frozen? ⟨bd, 1, none⟩ = false := fun q => ⟨(h5.mod q (fun _ _ _ h => h)).blk.cell 1, (h5.mod q (fun _ _ _ h => h)).blk.frozen 1⟩
  replace hfin := Lib.hid hfin
  replace hn2 := Lib.hid hn2
  clear hcr2 h5 hb5 hb4 bF4 m5 hx5 s1 s2 s3 s4 hrise hmem mS4
  have hcas : (vL2 = .slice none 0 0 ∧ A2.length = 0) ∨ ∃ p5 c, vL2 = .slice (some p5) A2.length c ∧ A2.length ≤ c ∧ c ≤ 9223372036854775807 := by
    rcases hrow5.form with ⟨e, h0⟩ | ⟨pg, c, e, g1, g2, g3⟩
    · exact .inl ⟨e, h0⟩
    · exact .inr ⟨⟨pg, 0, none⟩, c, e, g1, g2⟩
  rcases hcas with ⟨rfl, h0⟩ | ⟨p5, c, rfl, g1, g2⟩
  case' inr =>
    rw [hlen5] at g1
    by_cases hc : n2 < c
    · rw [hlen5] at hrow5 hbk5
      have hrc : Rc fiv 3 w5 (own (.slice (some p5) L2.length c)) (.slice (some p5) A2.length c) A2 := by rw [hlen5]; exact hrow5.rc
      have hrB : Rc fiv 3 w5 (own (.slice (some p5) L2.length c)) (.slice (some p5) n2 c) (A2.take n2) := hrc.begin fiv_len (m := n2) (by omega)
      have hrR : Rc fiv 3 w5 (own (.slice (some p5) L2.length c)) (.slice (some (p5.add (n2 * 3))) (L2.length - n2) (c - n2)) (A2.drop n2) := (by have := hrc.rest fiv_len (m := n2) (by omega); rw [hlen5] at this; exact this)
      have hn0 : (0 : Int) ≤ ((n2 : Nat) : Int) := by omega
      have hci : ¬ c = n2 := by omega
      have hn1 : (n2 : Int) ≤ (c : Int) := by omega
      have hn3 : (n2 : Int) ≤ (L2.length : Int) := by omega
      have hn4 : (L2.length : Int) ≤ (c : Int) := by omega
      have hAl : A2.length ≤ 4096 := by omega
      clear hrc hrow5
      go_wp2_with fail
      refine hcs5.mono ?_
      rintro e w6 ⟨rfl, x6⟩
      clear hcs5
      have hz6 := x6.size
      have oE := OwnR.empty fiv 3 w6 fileT
      have fE : Fresh w6.heap.size (.slice (some ⟨w6.heap.size, 0, none⟩) 0 0) := fresh_new (Nat.le_refl _)
      have qE : Ext w6 (w6.alloc (.cells #[] fileT)) := (Mod.refl _ _).alloc _
      have rB := hrB.ext (ext_trans x6 qE)
      have dE : (w6.alloc (.cells #[] 74)).cell? ⟨bd, 1, none⟩ = some (.slice (some p5) L2.length c) := (hbk5 (ext_trans x6 qE)).1
      have n1 : (([] : List (Fi × Value)).length + (A2.take n2).length) * 48 ≤ 140737488355328 := by rw [List.length_nil, List.length_take]; omega
      have n2' : ((([] : List (Fi × Value)) ++ A2.take n2).length + [((⟨y, f.b, f.last⟩ : Fi), Value.slice B f.b.length cb)].length) * 48 ≤ 140737488355328 := by rw [List.nil_append, List.length_take]; simp only [List.length_cons, List.length_nil]; omega
      have n3 : ((([] : List (Fi × Value)) ++ A2.take n2 ++ [((⟨y, f.b, f.last⟩ : Fi), Value.slice B f.b.length cb)]).length + (A2.drop n2).length) * 48 ≤ 140737488355328 := by simp only [List.length_append, List.length_cons, List.length_nil, List.length_take, List.length_drop]; omega
      have o1 : ∀ a ∈ A2.take n2, ∀ u ∈ fiv a, u.oneCell' = true := fun a ha => hone a (List.mem_of_mem_take ha)
      have o2 : ∀ a ∈ [((⟨y, f.b, f.last⟩ : Fi), Value.slice B f.b.length cb)], ∀ u ∈ fiv a, u.oneCell' = true := fiv_one (fun a ha => ⟨B, f.b.length, cb, by rw [List.mem_singleton.1 ha]⟩)
      have o3 : ∀ a ∈ A2.drop n2, ∀ u ∈ fiv a, u.oneCell' = true := fun a ha => hone a (List.mem_of_mem_drop ha)
      replace n1 := Lib.hid n1
      replace n2' := Lib.hid n2'
      replace n3 := Lib.hid n3
      clear hone
      go_wp2_with (first
        | ((with_reducible show wpList _ _ _ (⟨some 63, _, _, _, _, _⟩ :: _) _ _); refine wp_appRm tyF oE rB o1 n1.out rfl (.tmp 56) (.tmp 62) rfl rfl rfl ?_; intro v1 w7 k1 k2 k3; have q1 := ext_app0 qE fE k2; have f1 := k3.fresh fE qE.size; have bF7 := bF5.mod (ext_trans x6 q1) (fun h => h); have t0 : w7.cell? ⟨w2.heap.size, 0, none⟩ = some (sv y) := bF7.cell 0; have t1 : w7.cell? ⟨w2.heap.size, 1, none⟩ = some (.slice B f.b.length cb) := bF7.cell 1; have t2 : w7.cell? ⟨w2.heap.size, 2, none⟩ = some (.int .i64 (f.last : Int)) := bF7.cell 2; have k1a := k1.alloc (.cells #[sv y, .slice B f.b.length cb, .int .i64 (f.last : Int)] fileT); have rN : Rc fiv 3 (w7.alloc (.cells #[sv y, .slice B f.b.length cb, .int .i64 (f.last : Int)] fileT)) (fun b => b = w7.heap.size) (.slice (some ⟨w7.heap.size, 0, none⟩) 1 1) [((⟨y, f.b, f.last⟩ : Fi), Value.slice B f.b.length cb)] := Rc.lit1 fiv_len w7 fileT ((⟨y, f.b, f.last⟩ : Fi), Value.slice B f.b.length cb); have q1a := ext_trans q1 ((Mod.refl _ w7).alloc (.cells #[sv y, .slice B f.b.length cb, .int .i64 (f.last : Int)] fileT)); clear k1 k2 k3)
        | ((with_reducible show wpList _ _ _ (⟨some 67, _, _, _, _, _⟩ :: _) _ _); refine wp_appRm tyF k1a rN o2 n2'.out rfl (.tmp 64) (.tmp 66) rfl rfl rfl ?_; intro v2 w8 g1 g2 g3; have q2 := ext_app0 q1a f1 g2; have f2 := g3.fresh f1 q1a.size; have d5 := (hbk5 (ext_trans x6 q2)).1; have rR := hrR.ext (ext_trans x6 q2); clear g2 g3)
        | ((with_reducible show wpList _ _ _ (⟨some 76, _, _, _, _, _⟩ :: _) _ _); refine wp_appRm tyF g1 rR o3 n3.out rfl (.tmp 69) (.tmp 75) rfl rfl rfl ?_; intro v3 w9 m1 m2 m3; have q3 := ext_app0 q2 f2 m2; have f3 := m3.fresh f2 q2.size; have hff := hfin.out v3 w9 (ext_trans x6 q3) m1 (f3.mono hz6); obtain ⟨d6, z6⟩ := hbk5 (ext_trans x6 q3); obtain ⟨A3, l3, c3, hv3⟩ : ∃ A n c, v3 = Value.slice A n c := (by obtain ⟨A, c, h⟩ := m1.shape; exact ⟨A, _, c, h⟩); clear m1 m2 m3 f3 hfin; subst hv3))
      obtain ⟨hR, mR⟩ := hff
      have hcd := did_any hR
      clear hR
      refine hcd.mono ?_
      rintro e w10 ⟨rfl, h10, m10⟩
      clear hcd
      go_wp2_with fail
      go_ret
      refine ⟨rfl, ?_, (mS5.then_ mR fun k _ e => e ▸ hSd).then_ m10 fun k _ e => e ▸ hSd⟩
      rw [hL2.out]
      exact h10.rd.mono fun k _ hk => hgr k hk
    have e1 : L2.length = n2 := by omega
    have e2 : n2 = c := by omega
    rw [hlen5] at hrow5 hbk5
    rw [e1] at hlen5 hnl2 hrow5 hbk5 hfew5
    subst e2
    have hrc : Rc fiv 3 w5 (own (.slice (some p5) n2 n2)) (.slice (some p5) A2.length n2) A2 := by rw [hlen5]; exact hrow5.rc
    have hrB : Rc fiv 3 w5 (own (.slice (some p5) n2 n2)) (.slice (some p5) n2 n2) (A2.take n2) := hrc.begin fiv_len (m := n2) (by omega)
    have hrR : Rc fiv 3 w5 (own (.slice (some p5) n2 n2)) (.slice (some p5) 0 0) (A2.drop n2) := (by have := hrc.rest0 (m := n2) (by omega) rfl; rw [hlen5, Nat.sub_self] at this; exact this)
    have hn0 : (0 : Int) ≤ ((n2 : Nat) : Int) := by omega
    
    have hAl : A2.length ≤ 4096 := by omega
    clear hrc hrow5
    go_wp2_with fail
    refine hcs5.mono ?_
    rintro e w6 ⟨rfl, x6⟩
    clear hcs5
    have hz6 := x6.size
    have oE := OwnR.empty fiv 3 w6 fileT
    have fE : Fresh w6.heap.size (.slice (some ⟨w6.heap.size, 0, none⟩) 0 0) := fresh_new (Nat.le_refl _)
    have qE : Ext w6 (w6.alloc (.cells #[] fileT)) := (Mod.refl _ _).alloc _
    have rB := hrB.ext (ext_trans x6 qE)
    have dE : (w6.alloc (.cells #[] 74)).cell? ⟨bd, 1, none⟩ = some (.slice (some p5) n2 n2) := (hbk5 (ext_trans x6 qE)).1
    have n1 : (([] : List (Fi × Value)).length + (A2.take n2).length) * 48 ≤ 140737488355328 := by rw [List.length_nil, List.length_take]; omega
    have n2' : ((([] : List (Fi × Value)) ++ A2.take n2).length + [((⟨y, f.b, f.last⟩ : Fi), Value.slice B f.b.length cb)].length) * 48 ≤ 140737488355328 := by rw [List.nil_append, List.length_take]; simp only [List.length_cons, List.length_nil]; omega
    have n3 : ((([] : List (Fi × Value)) ++ A2.take n2 ++ [((⟨y, f.b, f.last⟩ : Fi), Value.slice B f.b.length cb)]).length + (A2.drop n2).length) * 48 ≤ 140737488355328 := by simp only [List.length_append, List.length_cons, List.length_nil, List.length_take, List.length_drop]; omega
    have o1 : ∀ a ∈ A2.take n2, ∀ u ∈ fiv a, u.oneCell' = true := fun a ha => hone a (List.mem_of_mem_take ha)
    have o2 : ∀ a ∈ [((⟨y, f.b, f.last⟩ : Fi), Value.slice B f.b.length cb)], ∀ u ∈ fiv a, u.oneCell' = true := fiv_one (fun a ha => ⟨B, f.b.length, cb, by rw [List.mem_singleton.1 ha]⟩)
    have o3 : ∀ a ∈ A2.drop n2, ∀ u ∈ fiv a, u.oneCell' = true := fun a ha => hone a (List.mem_of_mem_drop ha)
    replace n1 := Lib.hid n1
    replace n2' := Lib.hid n2'
    replace n3 := Lib.hid n3
    clear hone
    go_wp2_with (first
      | ((with_reducible show wpList _ _ _ (⟨some 63, _, _, _, _, _⟩ :: _) _ _); refine wp_appRm tyF oE rB o1 n1.out rfl (.tmp 56) (.tmp 62) rfl rfl rfl ?_; intro v1 w7 k1 k2 k3; have q1 := ext_app0 qE fE k2; have f1 := k3.fresh fE qE.size; have bF7 := bF5.mod (ext_trans x6 q1) (fun h => h); have t0 : w7.cell? ⟨w2.heap.size, 0, none⟩ = some (sv y) := bF7.cell 0; have t1 : w7.cell? ⟨w2.heap.size, 1, none⟩ = some (.slice B f.b.length cb) := bF7.cell 1; have t2 : w7.cell? ⟨w2.heap.size, 2, none⟩ = some (.int .i64 (f.last : Int)) := bF7.cell 2; have k1a := k1.alloc (.cells #[sv y, .slice B f.b.length cb, .int .i64 (f.last : Int)] fileT); have rN : Rc fiv 3 (w7.alloc (.cells #[sv y, .slice B f.b.length cb, .int .i64 (f.last : Int)] fileT)) (fun b => b = w7.heap.size) (.slice (some ⟨w7.heap.size, 0, none⟩) 1 1) [((⟨y, f.b, f.last⟩ : Fi), Value.slice B f.b.length cb)] := Rc.lit1 fiv_len w7 fileT ((⟨y, f.b, f.last⟩ : Fi), Value.slice B f.b.length cb); have q1a := ext_trans q1 ((Mod.refl _ w7).alloc (.cells #[sv y, .slice B f.b.length cb, .int .i64 (f.last : Int)] fileT)); clear k1 k2 k3)
      | ((with_reducible show wpList _ _ _ (⟨some 67, _, _, _, _, _⟩ :: _) _ _); refine wp_appRm tyF k1a rN o2 n2'.out rfl (.tmp 64) (.tmp 66) rfl rfl rfl ?_; intro v2 w8 g1 g2 g3; have q2 := ext_app0 q1a f1 g2; have f2 := g3.fresh f1 q1a.size; have d5 := (hbk5 (ext_trans x6 q2)).1; have rR := hrR.ext (ext_trans x6 q2); clear g2 g3)
      | ((with_reducible show wpList _ _ _ (⟨some 76, _, _, _, _, _⟩ :: _) _ _); refine wp_appRm tyF g1 rR o3 n3.out rfl (.tmp 69) (.tmp 75) rfl rfl rfl ?_; intro v3 w9 m1 m2 m3; have q3 := ext_app0 q2 f2 m2; have f3 := m3.fresh f2 q2.size; have hff := hfin.out v3 w9 (ext_trans x6 q3) m1 (f3.mono hz6); obtain ⟨d6, z6⟩ := hbk5 (ext_trans x6 q3); obtain ⟨A3, l3, c3, hv3⟩ : ∃ A n c, v3 = Value.slice A n c := (by obtain ⟨A, c, h⟩ := m1.shape; exact ⟨A, _, c, h⟩); clear m1 m2 m3 f3 hfin; subst hv3))
    obtain ⟨hR, mR⟩ := hff
    have hcd := did_any hR
    clear hR
    refine hcd.mono ?_
    rintro e w10 ⟨rfl, h10, m10⟩
    clear hcd
    go_wp2_with fail
    go_ret
    refine ⟨rfl, ?_, (mS5.then_ mR fun k _ e => e ▸ hSd).then_ m10 fun k _ e => e ▸ hSd⟩
    rw [hL2.out]
    exact h10.rd.mono fun k _ hk => hgr k hk
  case' inl =>
    have e0 : L2.length = 0 := by omega
    have e9 : n2 = 0 := by omega
    rw [e0] at hlen5 hfew5
    subst e9
    have hrc : Rc fiv 3 w5 (own (.slice none 0 0)) (.slice none A2.length 0) A2 := by rw [hlen5]; exact hrow5.rc
    have hrB : Rc fiv 3 w5 (own (.slice none 0 0)) (.slice none 0 0) (A2.take 0) := hrc.begin fiv_len (m := 0) (by omega)
    have hrR : Rc fiv 3 w5 (own (.slice none 0 0)) (.slice none 0 0) (A2.drop 0) := (by rw [show A2 = [] from List.eq_nil_of_length_eq_zero hlen5]; exact Rc.nil _ _ _ _)
    have hn0 : (0 : Int) ≤ ((0 : Nat) : Int) := by omega
    
    have hAl : A2.length ≤ 4096 := by omega
    clear hrc hrow5
    go_wp2_with fail
    refine hcs5.mono ?_
    rintro e w6 ⟨rfl, x6⟩
    clear hcs5
    have hz6 := x6.size
    have oE := OwnR.empty fiv 3 w6 fileT
    have fE : Fresh w6.heap.size (.slice (some ⟨w6.heap.size, 0, none⟩) 0 0) := fresh_new (Nat.le_refl _)
    have qE : Ext w6 (w6.alloc (.cells #[] fileT)) := (Mod.refl _ _).alloc _
    have rB := hrB.ext (ext_trans x6 qE)
    have dE : (w6.alloc (.cells #[] 74)).cell? ⟨bd, 1, none⟩ = some (.slice none 0 0) := (hbk5 (ext_trans x6 qE)).1
    have n1 : (([] : List (Fi × Value)).length + (A2.take 0).length) * 48 ≤ 140737488355328 := by rw [List.length_nil, List.length_take]; omega
    have n2' : ((([] : List (Fi × Value)) ++ A2.take 0).length + [((⟨y, f.b, f.last⟩ : Fi), Value.slice B f.b.length cb)].length) * 48 ≤ 140737488355328 := by rw [List.nil_append, List.length_take]; simp only [List.length_cons, List.length_nil]; omega
    have n3 : ((([] : List (Fi × Value)) ++ A2.take 0 ++ [((⟨y, f.b, f.last⟩ : Fi), Value.slice B f.b.length cb)]).length + (A2.drop 0).length) * 48 ≤ 140737488355328 := by simp only [List.length_append, List.length_cons, List.length_nil, List.length_take, List.length_drop]; omega
    have o1 : ∀ a ∈ A2.take 0, ∀ u ∈ fiv a, u.oneCell' = true := fun a ha => hone a (List.mem_of_mem_take ha)
    have o2 : ∀ a ∈ [((⟨y, f.b, f.last⟩ : Fi), Value.slice B f.b.length cb)], ∀ u ∈ fiv a, u.oneCell' = true := fiv_one (fun a ha => ⟨B, f.b.length, cb, by rw [List.mem_singleton.1 ha]⟩)
    have o3 : ∀ a ∈ A2.drop 0, ∀ u ∈ fiv a, u.oneCell' = true := fun a ha => hone a (List.mem_of_mem_drop ha)
    replace n1 := Lib.hid n1
    replace n2' := Lib.hid n2'
    replace n3 := Lib.hid n3
    clear hone
    go_wp2_with (first
      | ((with_reducible show wpList _ _ _ (⟨some 63, _, _, _, _, _⟩ :: _) _ _); refine wp_appRm tyF oE rB o1 n1.out rfl (.tmp 56) (.tmp 62) rfl rfl rfl ?_; intro v1 w7 k1 k2 k3; have q1 := ext_app0 qE fE k2; have f1 := k3.fresh fE qE.size; have bF7 := bF5.mod (ext_trans x6 q1) (fun h => h); have t0 : w7.cell? ⟨w2.heap.size, 0, none⟩ = some (sv y) := bF7.cell 0; have t1 : w7.cell? ⟨w2.heap.size, 1, none⟩ = some (.slice B f.b.length cb) := bF7.cell 1; have t2 : w7.cell? ⟨w2.heap.size, 2, none⟩ = some (.int .i64 (f.last : Int)) := bF7.cell 2; have k1a := k1.alloc (.cells #[sv y, .slice B f.b.length cb, .int .i64 (f.last : Int)] fileT); have rN : Rc fiv 3 (w7.alloc (.cells #[sv y, .slice B f.b.length cb, .int .i64 (f.last : Int)] fileT)) (fun b => b = w7.heap.size) (.slice (some ⟨w7.heap.size, 0, none⟩) 1 1) [((⟨y, f.b, f.last⟩ : Fi), Value.slice B f.b.length cb)] := Rc.lit1 fiv_len w7 fileT ((⟨y, f.b, f.last⟩ : Fi), Value.slice B f.b.length cb); have q1a := ext_trans q1 ((Mod.refl _ w7).alloc (.cells #[sv y, .slice B f.b.length cb, .int .i64 (f.last : Int)] fileT)); clear k1 k2 k3)
      | ((with_reducible show wpList _ _ _ (⟨some 67, _, _, _, _, _⟩ :: _) _ _); refine wp_appRm tyF k1a rN o2 n2'.out rfl (.tmp 64) (.tmp 66) rfl rfl rfl ?_; intro v2 w8 g1 g2 g3; have q2 := ext_app0 q1a f1 g2; have f2 := g3.fresh f1 q1a.size; have d5 := (hbk5 (ext_trans x6 q2)).1; have rR := hrR.ext (ext_trans x6 q2); clear g2 g3)
      | ((with_reducible show wpList _ _ _ (⟨some 76, _, _, _, _, _⟩ :: _) _ _); refine wp_appRm tyF g1 rR o3 n3.out rfl (.tmp 69) (.tmp 75) rfl rfl rfl ?_; intro v3 w9 m1 m2 m3; have q3 := ext_app0 q2 f2 m2; have f3 := m3.fresh f2 q2.size; have hff := hfin.out v3 w9 (ext_trans x6 q3) m1 (f3.mono hz6); obtain ⟨d6, z6⟩ := hbk5 (ext_trans x6 q3); obtain ⟨A3, l3, c3, hv3⟩ : ∃ A n c, v3 = Value.slice A n c := (by obtain ⟨A, c, h⟩ := m1.shape; exact ⟨A, _, c, h⟩); clear m1 m2 m3 f3 hfin; subst hv3))
    obtain ⟨hR, mR⟩ := hff
    have hcd := did_any hR
    clear hR
    refine hcd.mono ?_
    rintro e w10 ⟨rfl, h10, m10⟩
    clear hcd
    go_wp2_with fail
    go_ret
    refine ⟨rfl, ?_, (mS5.then_ mR fun k _ e => e ▸ hSd).then_ m10 fun k _ e => e ▸ hSd⟩
    rw [hL2.out]
    exact h10.rd.mono fun k _ hk => hgr k hk
end
end Go.Proofs.YtblfhonfjljndaaDoor
