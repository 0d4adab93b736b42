/- table: the document's Blocks. -/
import Derived.Test.YthohghnfiicndaaDoorTabF
import Derived.Test.YthohghnfiicndaaDoorMemM
import Derived.Test.YthohghnfiicndaaDoorFrmO
import Derived.Deep.CutBlock
namespace Go.Proofs.YthohghnfiicndaaDoor
open Go.RowKit
set_option maxRecDepth 100000

theorem own_neK {w : World} {e e' : TypeId} {v v' : Value} {xs ys : List Value} {k n : Nat} (h : Own w e v xs) (h' : OwnK w e' k v' n ys) (hne : e ≠ e') {b : Nat} (hk : own v b) (hk' : own v' b) : False := by
  rcases h'.2 with ⟨rfl, _⟩ | ⟨g, cap, cur, rfl, _, hh, _⟩
  · cases hk'
  · have : g = b := Option.some.inj hk'
    subst this
    exact h.ne_blk (t := e') hh hne hk
/-- Pieces of a call's own, each in a block of its own. -/
structure Bp (w : World) (v : Value) (vs : List Value) (Ls : List (List Ce)) : Prop where
  own : Own w 22 v vs
  len : vs.length = Ls.length
  els : ∀ (k : Nat) (x : Value) (l : List Ce), vs[k]? = some x → Ls[k]? = some l → OwnC w x l
section
variable {w w' : World} {v v' x : Value} {vs : List Value} {L : List (List Ce)} {l : List Ce}
theorem Bp.nil (w : World) : Bp w (.slice none 0 0) [] [] := ⟨Own.nil _ _, rfl, fun k x l h => by simp at h⟩
theorem Bp.ext (h : Bp w v vs L) (hm : Ext w w') : Bp w' v vs L := ⟨h.own.mod hm (fun _ _ h => h), h.len, fun k x l h1 h2 => (h.els k x l h1 h2).ext hm⟩
theorem Bp.snoc (h : Bp w v vs L) (h1 : Own w' 22 v' (vs ++ [x])) (h2 : Mod (Go.Proofs.YthohghnfiicndaaDoor.own v) w w') (hx : OwnC w x l) : Bp w' v' (vs ++ [x]) (L ++ [l]) := by
  have ne : ∀ {y : Value} {m : List Ce}, OwnC w y m → OwnC w' y m := fun hy => OwnR.mod hy h2 (fun k hk hv => own_neK h.own hy (by decide) hv hk)
  refine ⟨h1, by rw [List.length_append, List.length_append, h.len]; rfl, fun k y m hy hm => ?_⟩
  by_cases hk : k < vs.length
  · rw [List.getElem?_append_left hk] at hy
    rw [List.getElem?_append_left (by rw [← h.len]; exact hk)] at hm
    exact ne (h.els k y m hy hm)
  · rw [List.getElem?_append_right (by omega)] at hy
    rw [List.getElem?_append_right (by rw [← h.len]; omega), ← h.len] at hm
    generalize k - vs.length = j at *
    cases j with
    | zero =>
      simp at hy hm
      subst hy; subst hm
      exact ne hx
    | succ j => simp at hy
end
theorem sp_len {M : List Ce} {ps : List (List Ce)} {cur : List Ce} {m : Nat} (h : spRun M = ⟨ps, cur, m⟩) : ps.length ≤ M.length ∧ cur.length ≤ M.length ∧ m ≤ wC M + 16 * M.length := by
  have h1 := (sp_ok M).size
  have h2 := flat_len_ge _ (sp_ok M).full
  have h3 := (sp_ok M).all
  rw [h] at h1 h2 h3
  have h4 := congrArg List.length h3
  rw [List.length_append] at h4
  simp only at h1 h2 h4
  omega

set_option maxHeartbeats 16000000 in
theorem rblocks_any {w : World} {S : Nat → Prop} {v : Value} {L : List Ce} (h : Cs w S v L) (hw : wC L ≤ 1000000000) :
    Calls Tryd.prog 22 #[v] w fun e w' => ∃ v' vs, e = .returned v' ∧ Bp w' v' vs (splitB L) ∧ Fresh w.heap.size v' ∧ Ext w w' := by
  have hlw := wC_len L
  have hsb : splitB L = if (spRun L).now = [] then (spRun L).parts else (spRun L).parts ++ [(spRun L).now] := rfl
  generalize splitB L = PS at *
  replace hsb := Lib.hid hsb
  obtain ⟨A, c, rfl, h1, h2, h3, h4⟩ := h.open_ cel_len
  clear h h3
  go_enter Tryd.func22, Tryd.ntmps22
  go_wp2_with fail
  go_loopw [3, 4, 5, 6] (fun u nw n i wr => ∃ (k m : Nat) (ps : List (List Ce)) (cur : List Ce) (vs : List Value) (wq : World), i = .int .i64 k ∧ n = .int .i64 m ∧ k ≤ L.length ∧ Hid (spRun (L.take k) = ⟨ps, cur, m⟩) ∧ Bp wq u vs ps ∧ Fresh w.heap.size u ∧ Ext w wq ∧ OwnC wr nw cur ∧ Fresh wq.heap.size nw ∧ Ext wq wr) (fun _ _ _ i _ => L.length - (intOf i).toNat)
  case atStart => exact ⟨0, 0, [], [], [], w, rfl, rfl, Nat.zero_le _, Lib.hid rfl, Bp.nil _, fresh_nil _ _ _, Mod.refl _ _, OwnR.nil _ _ _ _, fresh_nil _ _ _, Mod.refl _ _⟩
  case round =>
    obtain ⟨k, m, ps, cur, vs, wq, rfl, rfl, hk, hsp, B, fu, xq, oc, fc, xr⟩ := hrel
    obtain ⟨b1, b2, b3⟩ := sp_len hsp.out
    have hwt := wC_take L k
    rw [List.length_take] at b1 b2 b3
    have hvl := B.len
    have hx := ext_trans xq xr
    have Br := B.ext xr
    have hpl : vs.length ≤ 1000000000 := by omega
    have hcl : (cur.length + 1) * 48 ≤ 140737488355328 := by omega
    obtain ⟨An, cn, rfl⟩ := oc.shape
    by_cases hlt : k < L.length
    · have hbl : decide ((k : Int) < (L.length : Int)) = true := dtrue (by omega)
      obtain ⟨ad, hA, hS, c0, c1, c2, c3⟩ := Cs.at_ (h4.ext hx) hlt
      subst hA
      have hcy := fun {wx : World} (hx : Ext w wx) => Cs.at_ (h4.ext hx) hlt
      have hst : spRun (L.take (k + 1)) = spStep ⟨ps, cur, m⟩ L[k] := by rw [spRun_snoc L hlt, hsp.out]
      have hfit := wC_mem (List.getElem_mem hlt)
      have hi0 : (0 : Int) ≤ (k : Int) := by omega
      have hi1 : (k : Int) < (L.length : Int) := by omega
      unfold spStep at hst
      unfold szC at hst
      generalize L[k] = x at *
      have hcx : ∀ {wx : World}, Ext w wx → wx.cell? (ad.add (k * 4)) = some (sv x.key) ∧ wx.cell? ⟨(ad.add (k * 4)).block, (ad.add (k * 4)).off + 1, none⟩ = some (sv x.val) ∧ wx.cell? ⟨(ad.add (k * 4)).block, (ad.add (k * 4)).off + 2, none⟩ = some (.bool x.del) ∧ wx.cell? ⟨(ad.add (k * 4)).block, (ad.add (k * 4)).off + 3, none⟩ = some (.int .i64 x.seq) := fun hx => by
        obtain ⟨ad', hA, _, d⟩ := hcy hx
        cases hA
        exact d
      have hs1 := fun wx => rsize_any (w := wx) x ⟨by omega, by omega⟩
      obtain ⟨z, hz⟩ : ∃ z, z = x.key.length + x.val.length + 16 := ⟨_, rfl⟩
      rw [← hz] at hst hs1
      have hmm : m ≤ 100000000000 := by omega
      have hzz : z ≤ 100000000000 := by omega
      clear hcy hsp hfit hz b1 b2 b3 hwt
      go_wp2_with fail
      refine (hs1 _).mono ?_
      rintro e w2 ⟨rfl, x2⟩
      have xr2 := ext_trans xr x2
      have hx2 := ext_trans hx x2
      have oc2 := oc.ext x2
      have B2 := Br.ext x2
      obtain ⟨c0, c1, c2, c3⟩ := hcx hx2
      clear hs1 x2 oc Br hx
      by_cases hc : cur = []
      · have hbc : decide ((0 : Int) < (cur.length : Int)) = false := dfalse (by rw [hc]; simp)
        have hq1 : decide (0 < cur.length) = false := dfalse (by rw [hc]; simp)
        have hq2 : ¬ 0 < cur.length := by rw [hc]; simp
        have hn := Lib.hid (hst.trans (if_neg (fun h => h.1 hc)))
        clear hst hc
        go_wp2_with ((with_reducible show wpList _ _ _ (⟨some 38, _, _, _, _, _⟩ :: _) _ _); refine wp_appR (x := x) tyC cel_len oc2 rfl (cel_ok _) hcl rfl (.tmp 32) (.tmp 37) rfl rfl rfl ?_; intro v6 w6 k1 k2 k3)
        exact ⟨⟨k + 1, m + z, ps, cur ++ [x], vs, wq, by go_num, by go_num, by omega, hn, B, fu, xq, k1, k3.fresh fc xr2.size, ext_app0 xr2 fc k2⟩, by simp [intOf] <;> omega⟩
      have hpos : 0 < cur.length := List.length_pos_iff.2 hc
      have hbc : decide ((0 : Int) < (cur.length : Int)) = true := dtrue (by omega)
      have hq1 : decide (0 < cur.length) = true := dtrue hpos
      by_cases hg : 512 < m + z
      case neg =>
        have b2 : decide ((512 : Int) < (m : Int) + (z : Int)) = false := dfalse (by omega)
        have hn := Lib.hid (hst.trans (if_neg (fun h => hg h.2)))
        clear hst hc
        go_wp2_with ((with_reducible show wpList _ _ _ (⟨some 38, _, _, _, _, _⟩ :: _) _ _); refine wp_appR (x := x) tyC cel_len oc2 rfl (cel_ok _) hcl rfl (.tmp 32) (.tmp 37) rfl rfl rfl ?_; intro v6 w6 k1 k2 k3)
        exact ⟨⟨k + 1, m + z, ps, cur ++ [x], vs, wq, by go_num, by go_num, by omega, hn, B, fu, xq, k1, k3.fresh fc xr2.size, ext_app0 xr2 fc k2⟩, by simp [intOf] <;> omega⟩
      have b2 : decide ((512 : Int) < (m : Int) + (z : Int)) = true := dtrue (by omega)
      have hn := Lib.hid (hst.trans (if_pos ⟨hc, hg⟩))
      have hc1 : (([] : List Ce).length + 1) * 48 ≤ 140737488355328 := by simp
      clear hst hc
      go_wp2_with (first
        | ((with_reducible show wpList _ _ _ (⟨some 31, _, _, _, _, _⟩ :: _) _ _); refine wp_app tyP (B2.own.alloc _) (Sl.one _ _ _) (one_ok _ rfl) rfl _ _ rfl rfl rfl (by simp; omega) ?_; intro u' w3 o3 m3 n3; have B3 := (B2.ext ((Mod.refl _ _).alloc _)).snoc o3 m3 (oc2.ext ((Mod.refl _ _).alloc _)); have x3 := ext_app0 (hx2.alloc _) fu m3; have f3 := n3.fresh fu (hx2.alloc _).size; obtain ⟨c0, c1, c2, c3⟩ := hcx x3)
        | ((with_reducible show wpList _ _ _ (⟨some 38, _, _, _, _, _⟩ :: _) _ _); refine wp_appR (x := x) tyC cel_len (OwnR.nil cel 4 _ 37) rfl (cel_ok _) hc1 rfl (.tmp 32) (.tmp 37) rfl rfl rfl ?_; intro v6 w6 k1 k2 k3))
      exact ⟨⟨k + 1, z, ps ++ [cur], [x], _, _, by go_num, by go_num, by omega, hn, B3, f3, x3, k1, k3.fresh (fresh_nil _ _ _) (Nat.le_refl _), ext_app0 (Mod.refl _ _) (fresh_nil _ _ _) k2⟩, by simp [intOf] <;> omega⟩
    have hbl : decide ((k : Int) < (L.length : Int)) = false := dfalse (by omega)
    obtain rfl : k = L.length := by omega
    have hr := hsp.out
    rw [List.take_length] at hr
    have hsb' := hsb.out
    rw [hr] at hsb'
    clear hsb hsp hr b1 b2 b3 hwt h4
    by_cases hc : cur = []
    · have hbc : decide ((0 : Int) < (cur.length : Int)) = false := dfalse (by rw [hc]; simp)
      have hq1 : decide (0 < cur.length) = false := dfalse (by rw [hc]; simp)
      have hq2 : ¬ 0 < cur.length := by rw [hc]; simp
      have hp : Hid (PS = ps) := Lib.hid (hsb'.trans (if_pos hc))
      clear hsb' hc
      go_wp2_with fail
      go_ret
      exact ⟨_, vs, rfl, hp.out ▸ Br, fu, hx⟩
    have hpos : 0 < cur.length := List.length_pos_iff.2 hc
    have hbc : decide ((0 : Int) < (cur.length : Int)) = true := dtrue (by omega)
    have hq1 : decide (0 < cur.length) = true := dtrue hpos
    have hp : Hid (PS = ps ++ [cur]) := Lib.hid (hsb'.trans (if_neg hc))
    clear hsb' hc
    go_wp2_with ((with_reducible show wpList _ _ _ (⟨some 48, _, _, _, _, _⟩ :: _) _ _); refine wp_app tyP (Br.own.alloc _) (Sl.one _ _ _) (one_ok _ rfl) rfl _ _ rfl rfl rfl (by simp; omega) ?_; intro u' w3 o3 m3 n3)
    go_ret
    exact ⟨u', _, rfl, hp.out ▸ (Br.ext ((Mod.refl _ _).alloc _)).snoc o3 m3 (oc.ext ((Mod.refl _ _).alloc _)), n3.fresh fu (hx.alloc _).size, ext_app0 (hx.alloc _) fu m3⟩
end Go.Proofs.YthohghnfiicndaaDoor
