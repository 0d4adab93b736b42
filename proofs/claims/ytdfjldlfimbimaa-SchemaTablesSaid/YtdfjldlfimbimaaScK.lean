/- schema: the document's classes. -/
import Derived.Test.YtdfjldlfimbimaaScJ
namespace Go.Proofs.Ytdfjldlfimbimaa
open Go.RowKit
set_option maxRecDepth 100000

theorem lit2F (w : World) (e : TypeId) (m y : Tx) (hm : m.length ≤ maxLen) (hy : y.length ≤ maxLen) :
    Ts ((w.alloc (.cells (m.map sv).toArray e)).alloc (.cells (y.map sv).toArray e)) (fun k => w.heap.size ≤ k) (.slice (some ⟨w.heap.size, 0, none⟩) m.length m.length) m ∧
    Ts ((w.alloc (.cells (m.map sv).toArray e)).alloc (.cells (y.map sv).toArray e)) (fun k => w.heap.size ≤ k) (.slice (some ⟨w.heap.size + 1, 0, none⟩) y.length y.length) y ∧
    Ext w ((w.alloc (.cells (m.map sv).toArray e)).alloc (.cells (y.map sv).toArray e)) := by
  have h1 := Sl.lit w e (m.map sv) (by rw [List.length_map]; exact hm)
  have h2 := Sl.lit (w.alloc (.cells (m.map sv).toArray e)) e (y.map sv) (by rw [List.length_map]; exact hy)
  rw [List.length_map] at h1 h2
  rw [show (w.alloc (.cells (m.map sv).toArray e)).heap.size = w.heap.size + 1 by simp] at h2
  exact ⟨(h1.alloc _).mono (fun k _ (hk : k = w.heap.size) => by show w.heap.size ≤ k; omega), h2.mono (fun k _ (hk : k = w.heap.size + 1) => by show w.heap.size ≤ k; omega), ((Mod.refl _ w).alloc _).alloc _⟩
theorem lit1F (w : World) (e : TypeId) (m : Tx) (hm : m.length ≤ maxLen) :
    Ts (w.alloc (.cells (m.map sv).toArray e)) (fun k => w.heap.size ≤ k) (.slice (some ⟨w.heap.size, 0, none⟩) m.length m.length) m ∧ Ext w (w.alloc (.cells (m.map sv).toArray e)) := by
  have h1 := Sl.lit w e (m.map sv) (by rw [List.length_map]; exact hm)
  rw [List.length_map] at h1
  exact ⟨h1.mono (fun k _ (hk : k = w.heap.size) => by show w.heap.size ≤ k; omega), (Mod.refl _ w).alloc _⟩
/-- What a class is, as both answer it. -/
def ClF (lo : Nat) (o : Option (Tx × Tx)) (e : Ending) (w' : World) : Prop := match o with
  | none => e = .returned (.tuple #[.slice none 0 0, .slice none 0 0, .bool false])
  | some c => ∃ x y, e = .returned (.tuple #[x, y, .bool true]) ∧ Ts w' (fun k => lo ≤ k) x c.1 ∧ Ts w' (fun k => lo ≤ k) y c.2
set_option maxHeartbeats 16000000 in
theorem rclassF_any {w : World} {s : List UInt8} (hs : s.length ≤ 140737488351232) :
    Calls Try.prog 15 #[sv s] w fun e w' => ClF w.heap.size (clP (foldB s)) e w' ∧ Ext w w' := by
  have hf := rfold_any (w := w) s hs
  obtain ⟨T, hT⟩ : ∃ T, T = foldB s := ⟨_, rfl⟩
  rw [← hT] at hf ⊢
  replace hT := Lib.hid hT
  have hc := Lib.hid (cl_in T)
  go_enter Try.func15, Try.ntmps15
  go_wp2_with fail
  refine hf.mono ?_
  rintro e w1 ⟨rfl, x1⟩
  clear hf
  rcases hc.out with rfl | rfl | rfl | rfl | rfl | rfl | rfl | ⟨hn, hq⟩
  · clear hc
    go_wp2_with fail
    go_ret3
    obtain ⟨t1, t3⟩ := lit1F w1 9 [[111, 98, 106, 101, 99, 116, 99, 108, 97, 115, 115]] (by decide)
    exact ⟨⟨_, _, rfl, t1.mono (fun k _ (hk : w1.heap.size ≤ k) => Nat.le_trans x1.size hk), Sl.nil _ _⟩, ext_trans x1 t3⟩
  · clear hc
    go_wp2_with fail
    go_ret3
    obtain ⟨t1, t2, t3⟩ := lit2F w1 9 [[99, 110], [115, 110]] [[117, 115, 101, 114, 112, 97, 115, 115, 119, 111, 114, 100], [116, 101, 108, 101, 112, 104, 111, 110, 101, 110, 117, 109, 98, 101, 114], [100, 101, 115, 99, 114, 105, 112, 116, 105, 111, 110], [116, 105, 116, 108, 101], [109, 97, 105, 108], [109, 97, 110, 97, 103, 101, 114], [100, 105, 115, 112, 108, 97, 121, 110, 97, 109, 101], [115, 101, 101, 97, 108, 115, 111], [108], [117, 105, 100], [117, 105, 100, 110, 117, 109, 98, 101, 114], [103, 105, 100, 110, 117, 109, 98, 101, 114], [111, 117]] (by decide) (by decide)
    exact ⟨⟨_, _, rfl, t1.mono (fun k _ (hk : w1.heap.size ≤ k) => Nat.le_trans x1.size hk), t2.mono (fun k _ (hk : w1.heap.size ≤ k) => Nat.le_trans x1.size hk)⟩, ext_trans x1 t3⟩
  · clear hc
    go_wp2_with fail
    go_ret3
    obtain ⟨t1, t2, t3⟩ := lit2F w1 9 [[111]] [[100, 101, 115, 99, 114, 105, 112, 116, 105, 111, 110], [108], [116, 101, 108, 101, 112, 104, 111, 110, 101, 110, 117, 109, 98, 101, 114], [117, 115, 101, 114, 112, 97, 115, 115, 119, 111, 114, 100], [115, 101, 101, 97, 108, 115, 111]] (by decide) (by decide)
    exact ⟨⟨_, _, rfl, t1.mono (fun k _ (hk : w1.heap.size ≤ k) => Nat.le_trans x1.size hk), t2.mono (fun k _ (hk : w1.heap.size ≤ k) => Nat.le_trans x1.size hk)⟩, ext_trans x1 t3⟩
  · clear hc
    go_wp2_with fail
    go_ret3
    obtain ⟨t1, t2, t3⟩ := lit2F w1 9 [[111, 117]] [[100, 101, 115, 99, 114, 105, 112, 116, 105, 111, 110], [108], [116, 101, 108, 101, 112, 104, 111, 110, 101, 110, 117, 109, 98, 101, 114], [117, 115, 101, 114, 112, 97, 115, 115, 119, 111, 114, 100], [115, 101, 101, 97, 108, 115, 111], [109, 97, 110, 97, 103, 101, 114]] (by decide) (by decide)
    exact ⟨⟨_, _, rfl, t1.mono (fun k _ (hk : w1.heap.size ≤ k) => Nat.le_trans x1.size hk), t2.mono (fun k _ (hk : w1.heap.size ≤ k) => Nat.le_trans x1.size hk)⟩, ext_trans x1 t3⟩
  · clear hc
    go_wp2_with fail
    go_ret3
    obtain ⟨t1, t2, t3⟩ := lit2F w1 9 [[100, 99]] [[100, 101, 115, 99, 114, 105, 112, 116, 105, 111, 110], [111], [108]] (by decide) (by decide)
    exact ⟨⟨_, _, rfl, t1.mono (fun k _ (hk : w1.heap.size ≤ k) => Nat.le_trans x1.size hk), t2.mono (fun k _ (hk : w1.heap.size ≤ k) => Nat.le_trans x1.size hk)⟩, ext_trans x1 t3⟩
  · clear hc
    go_wp2_with fail
    go_ret3
    obtain ⟨t1, t2, t3⟩ := lit2F w1 9 [[117, 105, 100]] [[100, 101, 115, 99, 114, 105, 112, 116, 105, 111, 110], [108], [111], [111, 117], [117, 115, 101, 114, 112, 97, 115, 115, 119, 111, 114, 100], [117, 105, 100, 110, 117, 109, 98, 101, 114], [103, 105, 100, 110, 117, 109, 98, 101, 114]] (by decide) (by decide)
    exact ⟨⟨_, _, rfl, t1.mono (fun k _ (hk : w1.heap.size ≤ k) => Nat.le_trans x1.size hk), t2.mono (fun k _ (hk : w1.heap.size ≤ k) => Nat.le_trans x1.size hk)⟩, ext_trans x1 t3⟩
  · clear hc
    go_wp2_with fail
    go_ret3
    obtain ⟨t1, t2, t3⟩ := lit2F w1 9 [[99, 110], [109, 101, 109, 98, 101, 114]] [[100, 101, 115, 99, 114, 105, 112, 116, 105, 111, 110], [111], [111, 117], [115, 101, 101, 97, 108, 115, 111]] (by decide) (by decide)
    exact ⟨⟨_, _, rfl, t1.mono (fun k _ (hk : w1.heap.size ≤ k) => Nat.le_trans x1.size hk), t2.mono (fun k _ (hk : w1.heap.size ≤ k) => Nat.le_trans x1.size hk)⟩, ext_trans x1 t3⟩
  · obtain ⟨e0, e1, e2, e3, e4, e5, e6⟩ := hq.out
    clear hc hq
    go_wp2_with fail
    go_ret3
    rw [hn]
    exact ⟨rfl, x1⟩
set_option maxHeartbeats 8000000 in
theorem vals14F_any {w : World} {vd va : Value} {e : Ent} {typ : List UInt8} (hd : As w AllE vd e.dn) (ha : Ats w va e.ats) (hw : wE e ≤ 1000000) (ht : typ.length ≤ 1000000) :
    Calls Try.prog 14 #[.agg #[vd, va], sv typ] w fun e' w' => ∃ v', e' = .returned v' ∧ Own w' 9 v' ((e.ats.flatMap (selE (foldB typ))).map sv) ∧ Fresh w.heap.size v' ∧ Ext w w' := by
  have hwa : wA e.ats ≤ 1000000 := by unfold wE at hw; omega
  have hgl := wA_ge e.ats
  have hfm : ∀ x ∈ e.ats, x.typ.length ≤ 1000000 ∧ x.vals.length ≤ 1000000 := fun x hx => by have := wA_mem hx; have := wV_ge x.vals; omega
  have hax := fun {wx : World} (x : Ext w wx) => (ha.ext x).open_
  obtain ⟨A, c, hva, -⟩ := ha.open_
  obtain ⟨A0, c0, hvd⟩ := Rc.shape hd
  obtain ⟨n, hn⟩ : ∃ n, n = e.ats.length := ⟨_, rfl⟩
  obtain ⟨n0, hn0⟩ : ∃ n, n = e.dn.length := ⟨_, rfl⟩
  rw [← hn] at hva hgl
  rw [← hn0] at hvd
  subst hva
  subst hvd
  have hN : n ≤ 1000000 := by omega
  obtain ⟨w1, hw1⟩ : ∃ x, x = w.alloc (.cells #[.slice A0 n0 c0, .slice A n c] 31) := ⟨_, rfl⟩
  obtain ⟨p, hp⟩ : ∃ p, p = w.heap.size := ⟨_, rfl⟩
  have x1 : Ext w w1 := by rw [hw1]; exact (Mod.refl _ w).alloc _
  have BP : Blk w1 p 31 #[.slice A0 n0 c0, .slice A n c] := by rw [hw1, hp]; exact Blk.new w _ _
  have hfT := fun wx => rfold_any (w := wx) typ (by omega)
  obtain ⟨F, hF⟩ : ∃ F, F = foldB typ := ⟨_, rfl⟩
  rw [← hF] at hfT ⊢
  have hpc : ∀ {wx : World}, Ext w1 wx → wx.cell? ⟨p, 1, none⟩ = some (.slice A n c) := fun x => (BP.mod x (fun h => h)).cell 1
  replace hF := Lib.hid hF
  replace hn := Lib.hid hn
  replace hn0 := Lib.hid hn0
  replace hw1 := Lib.hid hw1
  replace hp := Lib.hid hp
  have hws : w.heap.size ≤ w1.heap.size := x1.size
  clear ha hd hw hgl BP
  go_enter Try.func14, Try.ntmps14
  go_upto_region 1 with fail
  rw [← hw1.out, ← hp.out]
  clear hw1 hp
  go_wp2_with fail
  go_loopw [5, 6] (fun v i wr => ∃ k : Nat, k ≤ n ∧ i = .int .i64 k ∧ Own wr 9 v (((e.ats.take k).flatMap (selE F)).map sv) ∧ Fresh w1.heap.size v ∧ Ext w1 wr) (fun _ i _ => n - (intOf i).toNat)
  case atStart => exact ⟨0, Nat.zero_le _, rfl, Own.nil _ _, fresh_nil _ _ _, Mod.refl _ _⟩
  case round =>
    obtain ⟨k, hk, rfl, ho, hfr, hx⟩ := hrel
    have p1 := hpc hx
    by_cases hlt : k < n
    case neg =>
      have hbl : decide ((k : Int) < (n : Int)) = false := dfalseI (by omega)
      have hbn : decide (k < n) = false := dfalseI (by omega)
      rw [List.take_of_length_le (by have := hn.out; omega)] at ho
      go_wp2_with fail
      go_ret
      exact ⟨_, rfl, ho, hfr.mono x1.size, ext_trans x1 hx⟩
    have hbl : decide ((k : Int) < (n : Int)) = true := dtrueI (by omega)
    have hbn : decide (k < n) = true := dtrueI (by omega)
    have l1 : k < e.ats.length := by have := hn.out; omega
    obtain ⟨A', c', hv, hat⟩ := hax (ext_trans x1 hx)
    obtain ⟨ad, y, hA, a0, a1, hy⟩ := hat k l1
    injection hv with hv1 hvl hv3
    clear hvl
    subst hv1
    subst hv3
    subst hA
    have hsn := selE_next F e.ats l1
    have hfx := hfm _ (List.getElem_mem l1)
    have hlen : ((e.ats.take k).flatMap (selE F)).length ≤ 1000000 := by
      have h1 := selE_len F (e.ats.take k)
      have h2 := sumF_take atW e.ats k
      rw [← wA_sum, ← wA_sum] at h2
      omega
    generalize e.ats[k] = x at *
    have hi0 : (0 : Int) ≤ (k : Int) := by omega
    have hi1 : (k : Int) < (n : Int) := by omega
    obtain ⟨Ay, cy, hvy, -, -, -, -⟩ := hy.open_
    obtain ⟨nx, hnx⟩ : ∃ n, n = x.vals.length := ⟨_, rfl⟩
    rw [← hnx] at hvy
    subst hvy
    replace hnx := Lib.hid hnx
    have hf1 := rfold_any (w := wr) x.typ (by omega)
    generalize hfo : foldB x.typ = G at *
    have hsel : selE F x = if G = F then x.vals else [] := by unfold selE; rw [hfo]
    replace hfo := Lib.hid hfo
    clear hat l1 hax
    go_wp2_with fail
    refine hf1.mono ?_
    rintro e' w2 ⟨rfl, x2⟩
    have hf2 := hfT w2
    clear hf1 hfT
    go_wp2_with fail
    refine hf2.mono ?_
    rintro e' w3 ⟨rfl, x3⟩
    have x23 := ext_trans x2 x3
    have b1 := ext_cell x23 a1
    have p3 := hpc (ext_trans hx x23)
    have ho3 := ho.mod x23 (fun _ _ h => h)
    have hy3 := hy.ext x23
    have hx3 := ext_trans hx x23
    clear hf2 ho hy x2 x3 x23 a0 a1 p1 hpc
    by_cases hgf : G = F
    · have hb1 : (G == F) = true := beq_iff_eq.2 hgf
      rw [if_pos hgf] at hsel
      rw [hsel] at hsn
      have hn1 := Lib.hid (show ((((e.ats.take k).flatMap (selE F)).map sv).length + (x.vals.map sv).length) * 16 ≤ 140737488355328 by rw [List.length_map, List.length_map]; omega)
      have hmp : Hid (((e.ats.take k).flatMap (selE F)).map sv ++ x.vals.map sv = ((e.ats.take (k + 1)).flatMap (selE F)).map sv) := Lib.hid (by rw [hsn, List.map_append])
      clear hsn hsel hgf
      go_wp2_with ((with_reducible show wpList _ _ _ (⟨some 31, _, _, _, _, _⟩ :: _) _ _); refine wp_app tySE ho3 hy3 (sv_ones _) rfl (.tmp 24) (.tmp 30) rfl rfl rfl hn1.out ?_; intro v4 w4 k1 k2 k3)
      exact ⟨⟨k + 1, by omega, by go_num, by rw [← hmp.out]; exact k1, k3.fresh hfr hx3.size, hx3.trans k2 (fun _ _ h => h) (fun b hb h => by have := hfr b h; omega)⟩, by simp [intOf] <;> omega⟩
    · have hb1 : (G == F) = false := beq_eq_false_iff_ne.2 hgf
      rw [if_neg hgf] at hsel
      rw [hsel, List.append_nil] at hsn
      replace hsn := Lib.hid hsn
      clear hsel hgf
      go_wp2_with fail
      exact ⟨⟨k + 1, by omega, by go_num, by rw [hsn.out]; exact ho3, hfr, hx3⟩, by simp [intOf] <;> omega⟩

theorem must_fold (v : List UInt8) : ∀ t ∈ (clD v).1, foldB t = t := by
  have hall : ∀ c ∈ clTab.map (·.2), ∀ t ∈ c.1, foldB t = t := by decide
  have hin : ∀ (C : List (List UInt8 × Tx × Tx)) (k : List UInt8) (c : Tx × Tx), clIn C k = some c → c ∈ C.map (·.2) := by
    intro C k c
    induction C with
    | nil => intro h; cases h
    | cons p C ih =>
      intro h
      unfold clIn at h
      by_cases e : k = p.1
      · rw [if_pos e] at h
        rw [← Option.some.inj h]
        exact List.mem_cons_self ..
      · rw [if_neg e] at h
        exact List.mem_cons_of_mem _ (ih h)
  unfold clD
  cases h : clP (foldB v) with
  | none => exact fun t ht => by cases ht
  | some c => exact hall c (hin _ _ _ h)
theorem vals_none {L : List Att} (h : countsE L) (t : List UInt8) : (valsS L t).length = 0 ↔ t ∉ L.map fo := by
  rw [List.length_eq_zero_iff]
  constructor
  · intro hv hm
    obtain ⟨a, ha, e⟩ := List.mem_map.1 hm
    have hz := (h.2.1 a ha).1
    obtain ⟨v, hv2⟩ : ∃ v, v ∈ a.vals := by
      cases hq : a.vals with
      | nil => rw [hq] at hz; exact absurd rfl hz
      | cons v l => exact ⟨v, List.mem_cons_self ..⟩
    have := mem_valsS.2 ⟨a, ha, e, hv2⟩
    rw [hv] at this
    cases this
  · intro hm
    cases hq : valsS L t with
    | nil => rfl
    | cons v l =>
      obtain ⟨a, ha, e, _⟩ := mem_valsS.1 (show v ∈ valsS L t by rw [hq]; exact List.mem_cons_self ..)
      exact absurd (List.mem_map.2 ⟨a, ha, e⟩) hm
end Go.Proofs.Ytdfjldlfimbimaa
