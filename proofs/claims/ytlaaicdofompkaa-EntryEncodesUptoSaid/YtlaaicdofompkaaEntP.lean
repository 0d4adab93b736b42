/- entry: slices.Clone; Own. -/
import Derived.Test.YtlaaicdofompkaaEntN
import Derived.WalkLawsBesides
import Derived.Deep.RegionHeld3
namespace Go.Proofs.Ytlaaicdofompkaa
open Go.RowKit
set_option maxRecDepth 100000

section
variable {P : Program} {w : World} {t e : TypeId} {z : Value} {k bytes : Nat} {ops : Array Oper} {rest : List Oper} {o : Oper} {a : Act} {Q : Exit → Act → World → Prop} {α : Type} {f : α → List Value} {S : Nat → Prop}
/-- append(v, ys...), whole rows of records. -/
theorem wp_appRs (hT : SliceTyK P t e z k bytes) {v y : Value} {L M : List α} (hown : OwnR f k w e v L) (hr : Rc f k w S y M) (h1 : ∀ x, ∀ u ∈ f x, u.oneCell' = true) (hn : (L.length + M.length) * bytes ≤ 140737488355328)
    (hgd : o.guard = none) (s x : Operand) (ho : o.op = .call { callee := .builtin .append, args := #[s, x], argTypes := #[t, t] }) (hs : a.eval s = v) (hx : a.eval x = y)
    (h : ∀ v' w', OwnR f k w' e v' (L ++ M) → Mod (own v) w w' → Next w.heap.size v v' → wpList P ops Q rest (a.put o.dst v') w') : wpList P ops Q (o :: rest) a w :=
  wp_appk hT hown hr (fun u hu => by obtain ⟨x, _, hx⟩ := List.mem_flatMap.1 hu; exact h1 x u hx) hgd s x ho hs hx hn fun v' w' k1 k2 k3 => h v' w' (by unfold OwnR; rw [List.length_append, List.flatMap_append]; exact k1) k2 k3
theorem OwnR.empty (f : α → List Value) (k : Nat) (w : World) (e : TypeId) : OwnR f k (w.alloc (.cells #[] e)) e (.slice (some ⟨w.heap.size, 0, none⟩) 0 0) [] :=
  ⟨by simp, .inr ⟨w.heap.size, 0, #[], rfl, Nat.zero_le _, heap_alloc_new w _, Nat.le_refl _, Nat.zero_le _, by simp, by simp⟩⟩
theorem fresh_new (w : World) (n c : Nat) : Fresh w.heap.size (.slice (some ⟨w.heap.size, 0, none⟩) n c) := fun k hk => by have : w.heap.size = k := Option.some.inj hk; omega
end
set_option maxHeartbeats 2000000 in
theorem clone_any {w : World} {v : Value} {L : List Av} {S : Nat → Prop} (h : As w S v L) (hf : L.length * 32 ≤ 140737488351232) :
    Calls Try.prog 35 #[v] w fun e w' => ∃ v', e = .returned v' ∧ OwnA w' v' L ∧ Fresh w.heap.size v' ∧ Ext w w' := by
  obtain ⟨A, c, rfl, h1, h2, h3, h4⟩ := h.open_ avc_len
  cases A with
  | none =>
    obtain rfl : c = 0 := h3 rfl
    obtain rfl : L = [] := List.eq_nil_of_length_eq_zero (by omega)
    have he : ∀ wx : World, (binOp .eql 22 (.slice none 0 0) (.slice none 0 0)).run Try.prog wx = .ok (.bool true) wx := fun _ => rfl
    go_enter Try.func35, Try.ntmps35
    go_wp2_with fail
    go_ret
    exact ⟨_, rfl, OwnR.nil _ _ _ _, fresh_nil _ _ _, Mod.refl _ _⟩
  | some ad =>
    have hx : Ext w (w.alloc (.cells #[] 49)) := (Mod.refl _ w).alloc _
    have hn := Lib.hid (show (([] : List Av).length + L.length) * 32 ≤ 140737488355328 by simp; omega)
    have hr := h.ext hx
    have he : ∀ wx : World, (binOp .eql 22 (.slice (some ad) L.length c) (.slice none 0 0)).run Try.prog wx = .ok (.bool false) wx := fun _ => rfl
    have ho := OwnR.empty avc 2 w 49
    go_enter Try.func35, Try.ntmps35
    go_wp2_with ((with_reducible show wpList _ _ _ (⟨some 7, _, _, _, _, _⟩ :: _) _ _); refine wp_appRs tyA ho hr (fun x => avc_ok x) hn.out rfl (.tmp 5) (.tmp 6) rfl rfl rfl ?_; intro v2 w2 k1 k2 k3)
    go_ret
    exact ⟨_, rfl, k1, k3.fresh (fresh_new w 0 0) (by simp), hx.trans k2 (fun _ _ h => h) (fun b hb hh => by have : w.heap.size = b := Option.some.inj hh; omega)⟩

set_option maxHeartbeats 2000000 in
theorem clones_any {w : World} {S : Nat → Prop} {v : Value} {D : List (List UInt8)} (h : Sl w S v (D.map sv)) (hD : D.length * 16 ≤ 140737488351232) :
    Calls Try.prog 36 #[v] w fun e w' => ∃ v', e = .returned v' ∧ Own w' 9 v' (D.map sv) ∧ Fresh w.heap.size v' ∧ Ext w w' := by
  obtain ⟨A, c, hv, h1, h2, h3, -⟩ := h.open_
  subst hv
  cases A with
  | none =>
    have hD0 : D = [] := List.eq_nil_of_length_eq_zero (by have := h3 rfl; omega)
    subst hD0
    have he : ∀ wx : World, (binOp .eql 34 (.slice none 0 0) (.slice none 0 0)).run Try.prog wx = .ok (.bool true) wx := fun _ => rfl
    have hc0 : c = 0 := h3 rfl
    subst hc0
    go_enter Try.func36, Try.ntmps36
    go_wp2_with fail
    go_ret
    exact ⟨_, rfl, Own.nil _ _, fresh_nil _ _ _, Mod.refl _ _⟩
  | some ad =>
    have he : ∀ wx : World, (binOp .eql 34 (.slice (some ad) D.length c) (.slice none 0 0)).run Try.prog wx = .ok (.bool false) wx := fun _ => rfl
    have hlit : Own (w.alloc (.cells #[] 9)) 9 (.slice (some ⟨w.heap.size, 0, none⟩) 0 0) (([] : List (List UInt8)).map sv) := Own.lit w 9 [] (by simp [maxLen])
    have x0 : Ext w (w.alloc (.cells #[] 9)) := (Mod.refl _ w).alloc _
    have hn0 : ((([] : List (List UInt8)).map sv).length + (D.map sv).length) * 16 ≤ 140737488355328 := by simp only [List.length_map, List.length_nil]; omega
    have f0 : Fresh w.heap.size (.slice (some ⟨w.heap.size, 0, none⟩) 0 0) := fun k hk => by have : w.heap.size = k := Option.some.inj hk; omega
    go_enter Try.func36, Try.ntmps36
    go_wp2_with ((with_reducible show wpList _ _ _ (⟨some 7, _, _, _, _, _⟩ :: _) _ _); refine wp_app tyS hlit (h.ext x0) (fun u hu => by obtain ⟨x, _, rfl⟩ := List.mem_map.1 hu; rfl) rfl (.tmp 5) (.tmp 6) rfl rfl rfl hn0 ?_; intro v2 w2 k1 k2 k3)
    go_ret
    exact ⟨v2, rfl, by simpa using k1, k3.fresh f0 x0.size, x0.trans k2 (fun _ _ h => h) (fun i hi hF => by have := f0 i hF; omega)⟩


/-- An entry in the making, in memory that wasn't there in w. -/
structure Oc (w : World) (g : Nat) (wx : World) (vd va : Value) (rs : List AtV) (D : List Av) (L : List Att) : Prop where
  e : Blk wx g 25 #[vd, va]
  d : OwnA wx vd D
  a : OAt wx va rs L
  ex : Ext w wx
  lo : w.heap.size ≤ g
  fd : Fresh w.heap.size vd
  fa : Fresh w.heap.size va
  fe : ∀ r ∈ rs, Fresh w.heap.size r.2
section
variable {w wx w' : World} {g : Nat} {vd va v' : Value} {rs : List AtV} {D : List Av} {L : List Att}
theorem Oc.ext (h : Oc w g wx vd va rs D L) (m : Ext wx w') : Oc w g w' vd va rs D L :=
  ⟨h.e.mod m (fun h => h), h.d.mod m (fun _ _ h => h), h.a.ext m, ext_trans h.ex m, h.lo, h.fd, h.fa, h.fe⟩
theorem Oc.addA {r : AtV} {a : Att} (h : Oc w g wx vd va rs D L) (k1 : OwnR atc 2 w' 46 v' (rs ++ [r])) (k2 : Mod (own va) wx w') (k3 : Next wx.heap.size va v') (ht : r.1 = a.typ) (hy : Own wx 9 r.2 (a.vals.map sv)) (hf : Fresh w.heap.size r.2) : Oc w g (w'.setCell ⟨g, 1, none⟩ v') vd v' (rs ++ [r]) D (L ++ [a]) := by
  have hws := h.ex.size
  have he := h.e.mod k2 (fun hk => ownR_ne_blk h.a.own h.e (by decide) hk rfl)
  have f' : Fresh w.heap.size v' := k3.fresh h.fa hws
  have sm := setc_mod w' g 1 v'
  have hd := h.d.mod k2 (fun k hk ho => ownR_neR h.d h.a.own (by decide) hk ho)
  have ha := h.a.snoc k1 k2 ht hy
  have hx : Ext w w' := h.ex.trans k2 (fun _ _ h => h) (fun k hk ho => by have := h.fa k ho; omega)
  exact ⟨he.set_ 1 v', hd.mod sm (fun k hk e => ownR_ne_blk hd he (by decide) hk e),
    ha.mod sm (fun k hk e => ownR_ne_blk ha.own he (by decide) hk e) (fun r hr k hk e => by
      obtain ⟨i, hi, e'⟩ := List.getElem_of_mem hr
      have hl := ha.len
      exact (ha.els i r ((L ++ [a])[i]'(by omega)) (by rw [List.getElem?_eq_getElem hi, e']) (by rw [List.getElem?_eq_getElem (by omega)])).2.ne_blk he (by decide) (by rw [← e]; exact hk)),
    hx.trans sm (fun _ _ h => h) (fun k hk e => by have := h.lo; omega), h.lo, h.fd, f', fun x hx => by
      rcases List.mem_append.1 hx with hx | hx
      · exact h.fe x hx
      · rw [List.mem_singleton.1 hx]; exact hf⟩
end

set_option maxHeartbeats 8000000 in
theorem own20_any {w : World} {vd va : Value} {e : Ent} (hd : As w All vd e.dn) (ha : Ats w va e.ats) (hF : EFits e) :
    Calls Try.prog 16 #[.agg #[vd, va]] w fun e' w' => ∃ vd' va' rs, e' = .returned (.agg #[vd', va']) ∧ OwnA w' vd' e.dn ∧ OAt w' va' rs e.ats ∧ Fresh w.heap.size vd' ∧ Fresh w.heap.size va' ∧ (∀ r ∈ rs, Fresh w.heap.size r.2) ∧ Ext w w' := by
  have hgl := hF.len
  have hel := hF.els
  have hcl := fun {wx : World} (x : Ext w wx) => clone_any (hd.ext x) hF.dn.2
  have hax := fun {wx : World} (x : Ext w wx) => (ha.ext x).open_
  obtain ⟨A, c, rfl, -⟩ := ha.open_
  obtain ⟨A0, c0, rfl⟩ := Rc.shape hd
  obtain ⟨n, hn⟩ : ∃ n, n = e.ats.length := ⟨_, rfl⟩
  obtain ⟨n0, hn0⟩ : ∃ n, n = e.dn.length := ⟨_, rfl⟩
  rw [← hn, ← hn0]
  have hN : n ≤ 9223372036854775806 := by omega
  obtain ⟨w2, hw2⟩ : ∃ x, x = (w.alloc (.cells #[.slice A0 n0 c0, .slice A n c] 25)).alloc (.cells #[.slice none 0 0, .slice none 0 0] 25) := ⟨_, rfl⟩
  have x2 : Ext w w2 := by rw [hw2]; exact ((Mod.refl _ w).alloc _).alloc _
  have BA : Blk w2 w.heap.size 25 #[.slice A0 n0 c0, .slice A n c] := by rw [hw2]; exact (Blk.new w _ _).mod (F := fun _ => False) ((Mod.refl _ _).alloc _) (fun h => h)
  have BR : Blk w2 (w.heap.size + 1) 25 #[.slice none 0 0, .slice none 0 0] := by
    rw [hw2]
    have h := Blk.new (w.alloc (.cells #[.slice A0 n0 c0, .slice A n c] 25)) 25 #[.slice none 0 0, .slice none 0 0]
    have hs : (w.alloc (.cells #[.slice A0 n0 c0, .slice A n c] 25)).heap.size = w.heap.size + 1 := by simp
    rw [hs] at h
    exact h
  obtain ⟨q, hq⟩ : ∃ q, q = w.heap.size + 1 := ⟨_, rfl⟩
  obtain ⟨p, hp⟩ : ∃ p, p = w.heap.size := ⟨_, rfl⟩
  have hpw : w.heap.size ≤ p := by omega
  have hqw : w.heap.size ≤ q := by omega
  rw [← hq] at BR
  rw [← hp] at BA
  have hc1 := hcl x2
  rw [← hn0] at hc1
  replace hw2 := Lib.hid hw2
  replace hq := Lib.hid hq
  replace hp := Lib.hid hp
  replace hn := Lib.hid hn
  replace hn0 := Lib.hid hn0
  clear ha hd hcl hF
  go_enter Try.func16, Try.ntmps16
  go_upto_region 1 with fail
  rw [← hw2.out, ← hq.out, ← hp.out]
  clear hw2 hq hp
  have p0 : w2.cell? ⟨p, 0, none⟩ = some (.slice A0 n0 c0) := BA.cell 0
  go_wp2_with fail
  refine hc1.mono ?_
  rintro e' w3 ⟨vd', rfl, o3, f3, x3⟩
  obtain ⟨w4, hw4⟩ : ∃ x, x = w3.alloc (.cells #[vd', .slice none 0 0] 25) := ⟨_, rfl⟩
  obtain ⟨g, hg⟩ : ∃ g, g = w3.heap.size := ⟨_, rfl⟩
  have x4 : Ext w3 w4 := by rw [hw4]; exact (Mod.refl _ w3).alloc _
  have B4 : Blk w4 g 25 #[vd', .slice none 0 0] := by rw [hw4, hg]; exact Blk.new w3 _ _
  have y4 : Ext w2 w4 := ext_trans x3 x4
  have hqg : q < g := by have := BR.lt; have := x3.size; omega
  have hw2s := x2.size
  have K4 : Oc w2 g w4 vd' (.slice none 0 0) [] e.dn [] := ⟨B4, o3.mod x4 (fun _ _ h => h), OAt.nil _, y4, by have := x3.size; omega, f3, fresh_nil _ _ _, fun r h => by cases h⟩
  have p1 : w4.cell? ⟨p, 1, none⟩ = some (.slice A n c) := (BA.mod y4 (fun h => h)).cell 1
  replace hw4 := Lib.hid hw4
  replace hg := Lib.hid hg
  obtain ⟨A3, c3, rfl⟩ := OwnR.shape o3
  rw [← hn0.out] at K4 hw4 ⊢
  clear hc1 p0 o3 f3 x3 x4 B4 y4
  go_upto_region 2 with fail
  rw [← hw4.out, ← hg.out]
  clear hw4 hg
  go_wp2_with fail
  go_loopw [13] (fun i wr => ∃ (k : Nat) (va : Value) (rs : List AtV), k ≤ n ∧ i = .int .i64 k ∧ Oc w2 g wr (.slice A3 n0 c3) va rs e.dn (e.ats.take k)) (fun i _ => n - (intOf i).toNat)
  case atStart => exact ⟨0, _, [], Nat.zero_le _, rfl, K4⟩
  case round =>
    clear K4 p1
    obtain ⟨k, va, rs, hk, rfl, K⟩ := hrel
    by_cases hlt : k < n
    case neg =>
      have hbl : decide ((k : Int) < (n : Int)) = false := dfalse (by omega)
      have hbn : decide (k < n) = false := dfalse (by omega)
      rw [List.take_of_length_le (by have := hn.out; omega)] at K
      have BRr := BR.mod K.ex (fun h => h)
      obtain ⟨Aa, na, ca, rfl⟩ : ∃ A n c, va = Value.slice A n c := by obtain ⟨A, c, h⟩ := OwnR.shape K.a.own; exact ⟨A, _, c, h⟩
      have f0 := BRr.frozen 0
      have f1 := BRr.frozen 1
      have r0 : wr.cell? ⟨q, 0, none⟩ = some (Value.slice none 0 0) := BRr.cell 0
      have r1 : wr.cell? ⟨q, 1, none⟩ = some (Value.slice none 0 0) := BRr.cell 1
      have g0 : wr.cell? ⟨g, 0, none⟩ = some (Value.slice A3 n0 c3) := K.e.cell 0
      have g1 : wr.cell? ⟨g, 1, none⟩ = some (Value.slice Aa na ca) := K.e.cell 1
      have R5 := (BRr.set_ 0 (Value.slice A3 n0 c3)).set_ 1 (Value.slice Aa na ca)
      have sm := set2_mod wr q (Value.slice A3 n0 c3) (Value.slice Aa na ca)
      have hex := K.ex
      have hsz := x2.size
      have hqf : q < w2.heap.size := BR.lt
      have hd9 := OwnR.mod K.d sm (fun k hk e => by have := K.fd k hk; omega)
      have ha9 := K.a.mod sm (fun k hk e => by have := K.fa k hk; omega) (fun r hr k hk e => by have := K.fe r hr k hk; omega)
      have fin : Ext w ((wr.setCell ⟨q, 0, none⟩ (Value.slice A3 n0 c3)).setCell ⟨q, 1, none⟩ (Value.slice Aa na ca)) := (ext_trans x2 hex).trans sm (fun _ _ h => h) (fun k hk e => by omega)
      have F0 : Fresh w.heap.size (Value.slice A3 n0 c3) := fun k hk => by have := K.fd k hk; omega
      have F1 : Fresh w.heap.size (Value.slice Aa na ca) := fun k hk => by have := K.fa k hk; omega
      have F2 : ∀ r ∈ rs, Fresh w.heap.size r.2 := fun r hr k hk => by have := K.fe r hr k hk; omega
      clear sm hax BRr
      go_wp2_with fail
      refine bodyPost_ret (results_cell_row Try.results16 _ _ _ _ _ _ _ rfl R5 Try.underlying25 rfl (by kernel_rfl)) rfl ?_
      exact ⟨_, _, rs, rfl, hd9, ha9, F0, F1, F2, fin⟩
    have hbl : decide ((k : Int) < (n : Int)) = true := dtrue (by omega)
    have hbn : decide (k < n) = true := dtrue (by omega)
    have l1 : k < e.ats.length := by have := hn.out; omega
    obtain ⟨A', c', hv, hat⟩ := hax (ext_trans x2 K.ex)
    obtain ⟨ad, y, hA, a0, a1, hy⟩ := hat k l1
    injection hv with hv1 _ hv3
    subst hv1
    subst hv3
    subst hA
    have hsn := List.take_succ_eq_append_getElem l1
    have hfx := hel _ (List.getElem_mem l1)
    generalize e.ats[k] = x at *
    have hi0 : (0 : Int) ≤ (k : Int) := by omega
    have hi1 : (k : Int) < (n : Int) := by omega
    obtain ⟨Ay, cy, rfl, -, -, -, -⟩ := hy.open_
    obtain ⟨m, hm⟩ : ∃ m, m = x.vals.length := ⟨_, rfl⟩
    rw [← hm] at a1 hy
    replace hm := Lib.hid hm
    obtain ⟨wa, hwa⟩ : ∃ wa, wa = wr.alloc (.cells #[sv x.typ, .slice Ay m cy] 46) := ⟨_, rfl⟩
    obtain ⟨ga, hga⟩ : ∃ ga, ga = wr.heap.size := ⟨_, rfl⟩
    have xa : Ext wr wa := by rw [hwa]; exact (Mod.refl _ wr).alloc _
    have BAt : Blk wa ga 46 #[sv x.typ, .slice Ay m cy] := by rw [hwa, hga]; exact Blk.new wr _ _
    have hga2 : g < ga := by rw [hga]; exact K.e.lt
    have hva : ∀ j, own va j → j < ga := by rw [hga]; exact fun j hj => K.a.own.lt hj
    have Ka := K.ext xa
    have hya := hy.ext xa
    replace hwa := Lib.hid hwa
    replace hga := Lib.hid hga
    clear hat hax K xa hy
    go_upto_region 5 with fail
    rw [← hwa.out, ← hga.out]
    clear hwa hga a0 a1
    have hdr : Ext wa wa.drew := (Mod.refl _ wa).drew
    have Kd := Ka.ext hdr
    have BAd := BAt.mod hdr (fun h => h)
    have hcT := clones_any (hya.ext hdr) (by have := hfx.2.1; omega)
    obtain ⟨Av, cv, hvv⟩ := Kd.a.own.shape
    obtain ⟨nv, hnv⟩ : ∃ n, n = rs.length := ⟨_, rfl⟩
    have hrl := Kd.a.len
    have hn1 := Lib.hid (show (rs.length + 1) * 40 ≤ 140737488355328 by rw [hrl, List.length_take]; omega)
    rw [← hnv] at hvv
    subst hvv
    replace hnv := Lib.hid hnv
    have c1 : wa.drew.cell? ⟨g, 1, none⟩ = some (Value.slice Av nv cv) := Kd.e.cell 1
    have hcc : ∀ {F : Nat → Prop} {wx : World}, Mod F wa.drew wx → ¬ F ga → wx.cell? ⟨ga, 0, none⟩ = some (sv x.typ) ∧ wx.cell? ⟨ga, 1, none⟩ = some (.slice Ay m cy) := fun hx hF => ⟨(BAd.mod hx hF).cell 0, (BAd.mod hx hF).cell 1⟩
    clear Ka BAt hya hrl hfx
    refine wp_region_held_drew (S := fun wx => wx.cell? ⟨ga, 0, none⟩ = some (sv x.typ) ∧ wx.cell? ⟨ga, 1, none⟩ = some (.slice Ay m cy)) (by kernel_rfl) (hcc (Mod.refl (fun _ => False) _) (fun h => h)) (fun hH => ?_)
    (refine wpAnyH_take (i := 0) (oi := ⟨_, _, _, _, _, _⟩) (v := ?_) rfl (by kernel_rfl) (by kernel_rfl) (by kernel_rfl) (fun _ _ _ h => h) (Or.inl ⟨by kernel_rfl, ?_⟩) hH ?_; rotate_left; focus (intro wx hSw; (try dsimp only at hSw); go_simp; try with_reducible rfl)); try simp only [Act.put, List.setIfInBounds_toArray, List.set_cons_zero, List.set_cons_succ]; try simp only [List.getElem_toArray, List.getElem_cons_succ, List.getElem_cons_zero]
    (refine wpAnyH_take (i := 2) (oi := ⟨_, _, _, _, _, _⟩) (v := ?_) rfl (by kernel_rfl) (by kernel_rfl) (by kernel_rfl) (fun _ _ _ h => h) (Or.inl ⟨by kernel_rfl, ?_⟩) hH ?_; rotate_left; focus (intro wx hSw; (try dsimp only at hSw); go_simp; try with_reducible rfl)); try simp only [Act.put, List.setIfInBounds_toArray, List.set_cons_zero, List.set_cons_succ]; try simp only [List.getElem_toArray, List.getElem_cons_succ, List.getElem_cons_zero]
    (refine wpAnyH_take (i := 3) (oi := ⟨_, _, _, _, _, _⟩) (v := ?_) rfl (by kernel_rfl) (by kernel_rfl) (by kernel_rfl) (fun _ _ _ h => h) (Or.inl ⟨by kernel_rfl, ?_⟩) hH ?_; rotate_left; focus (intro wx hSw; (try dsimp only at hSw); go_simp; try with_reducible rfl)); try simp only [Act.put, List.setIfInBounds_toArray, List.set_cons_zero, List.set_cons_succ]; try simp only [List.getElem_toArray, List.getElem_cons_succ, List.getElem_cons_zero]
    (refine wpAnyH_take (i := 4) (oi := ⟨_, _, _, _, _, _⟩) (v := ?_) rfl (by kernel_rfl) (by kernel_rfl) (by kernel_rfl) (fun _ _ _ h => h) (Or.inl ⟨by kernel_rfl, ?_⟩) hH ?_; rotate_left; focus (intro wx hSw; (try dsimp only at hSw); go_simp; try with_reducible rfl)); try simp only [Act.put, List.setIfInBounds_toArray, List.set_cons_zero, List.set_cons_succ]; try simp only [List.getElem_toArray, List.getElem_cons_succ, List.getElem_cons_zero]
    (refine wpAnyH_take (i := 5) (oi := ⟨_, _, _, _, _, _⟩) (v := ?_) rfl (by kernel_rfl) (by kernel_rfl) (by kernel_rfl) (fun _ _ _ h => h) (Or.inl ⟨by kernel_rfl, ?_⟩) hH ?_; rotate_left; focus (intro wx hSw; (try dsimp only at hSw); go_simp; try with_reducible rfl)); try simp only [Act.put, List.setIfInBounds_toArray, List.set_cons_zero, List.set_cons_succ]; try simp only [List.getElem_toArray, List.getElem_cons_succ, List.getElem_cons_zero]
    refine wpAnyH_ready (rs := [1, 6]) (by kernel_rfl) (by simp) ?_
    refine AllReadyH.cons rfl (fun K' hK => ?_) (AllReadyH.cons rfl (fun K' hK => ?_) AllReadyH.nil)
    case' refine_1 =>
      go_simp
      (go_wp2_with fail; refine hK.out _ _ (hH) (fun hH => ?_); clear hK K'; try simp only [Act.put, List.setIfInBounds_toArray, List.set_cons_zero, List.set_cons_succ]; try simp only [List.getElem_toArray, List.getElem_cons_succ, List.getElem_cons_zero])
      (refine wpAnyH_ready (rs := [6]) (by kernel_rfl) (by simp) ?_; refine AllReadyH.cons rfl (fun K' hK => ?_) AllReadyH.nil)
      go_simp
      refine hcT.mono ?_
      rintro e' w12 ⟨v12, rfl, o12, f12, x12⟩
      obtain ⟨A12, c12, hv12⟩ := o12.shape
      obtain ⟨n12, hn12⟩ : ∃ n, n = (x.vals.map sv).length := ⟨_, rfl⟩
      rw [← hn12] at hv12
      subst hv12
      replace hn12 := Lib.hid hn12
      have K12 := Kd.ext x12
      have c1a : w12.cell? ⟨g, 1, none⟩ = some (Value.slice Av nv cv) := K12.e.cell 1
      have xl : Ext w12 (w12.alloc (.cells #[sv x.typ, .slice A12 n12 c12] 46)) := (Mod.refl _ w12).alloc _
      have c1l : (w12.alloc (.cells #[sv x.typ, .slice A12 n12 c12] 46)).cell? ⟨g, 1, none⟩ = some (Value.slice Av nv cv) := (K12.ext xl).e.cell 1
      have yl := ext_trans x12 xl
      (go_wp2_with fail; refine hK.out _ _ (hcc x12 (fun h => h)) (fun hH => ?_); clear hK K'; try simp only [Act.put, List.setIfInBounds_toArray, List.set_cons_zero, List.set_cons_succ]; try simp only [List.getElem_toArray, List.getElem_cons_succ, List.getElem_cons_zero])
      (refine wpAnyH_take (i := 7) (oi := ⟨_, _, _, _, _, _⟩) (v := ?_) rfl (by kernel_rfl) (by kernel_rfl) (by kernel_rfl) (fun _ _ _ h => h) (Or.inl ⟨by kernel_rfl, ?_⟩) hH ?_; rotate_left; focus (intro wx hSw; (try dsimp only at hSw); go_simp; try with_reducible rfl)); try simp only [Act.put, List.setIfInBounds_toArray, List.set_cons_zero, List.set_cons_succ]; try simp only [List.getElem_toArray, List.getElem_cons_succ, List.getElem_cons_zero]
      (refine wpAnyH_ready (rs := [8]) (by kernel_rfl) (by simp) ?_; refine AllReadyH.cons rfl (fun K' hK => ?_) AllReadyH.nil)
      go_simp
      (go_wp2_with fail; refine hK.out _ _ (hcc yl (fun h => h)) (fun hH => ?_); clear hK K'; try simp only [Act.put, List.setIfInBounds_toArray, List.set_cons_zero, List.set_cons_succ]; try simp only [List.getElem_toArray, List.getElem_cons_succ, List.getElem_cons_zero])
      (refine wpAnyH_ready (rs := [9]) (by kernel_rfl) (by simp) ?_; refine AllReadyH.cons rfl (fun K' hK => ?_) AllReadyH.nil)
      refine step_appR (x := ((x.typ, Value.slice A12 n12 c12) : AtV)) tyAt atc_len K12.a.own rfl atc_ok hn1.out rfl rfl (.tmp 18) (.tmp 25) rfl rfl rfl ?_
      intro va' wz ka1 ka2 ka3
      obtain ⟨Aw, nw, cw, rfl⟩ : ∃ A n c, va' = Value.slice A n c := (by obtain ⟨A, c, h⟩ := ka1.shape; exact ⟨A, _, c, h⟩)
      have m12 : Mod (own (Value.slice Av nv cv)) wa.drew wz := x12.trans ka2 (fun _ _ h => h.elim) (fun _ _ h => h)
      have nga : ¬ own (Value.slice Av nv cv) ga := fun h => by have := hva _ h; omega
      have BE := K12.e.mod ka2 (fun ho => ownR_ne_blk K12.a.own K12.e (by decide) ho rfl)
      have fz := BE.frozen 1
      have cz1 : wz.cell? ⟨g, 1, none⟩ = some (Value.slice Av nv cv) := BE.cell 1
      (refine hK.out _ _ (hcc m12 nga) (fun hH => ?_); clear hK K'; try simp only [Act.put, List.setIfInBounds_toArray]; try simp only [List.getElem_toArray, List.getElem_cons_succ, List.getElem_cons_zero])
      (refine wpAnyH_take (i := 10) (oi := ⟨_, _, _, _, _, _⟩) (v := ?_) rfl (by kernel_rfl) (by kernel_rfl) (by kernel_rfl) (fun _ _ _ h => h) (Or.inl ⟨by kernel_rfl, ?_⟩) hH ?_; rotate_left; focus (intro wx hSw; (try dsimp only at hSw); go_simp; try with_reducible rfl)); try simp only [Act.put, List.setIfInBounds_toArray, List.set_cons_zero, List.set_cons_succ]; try simp only [List.getElem_toArray, List.getElem_cons_succ, List.getElem_cons_zero]
      (refine wpAnyH_ready (rs := [11]) (by kernel_rfl) (by simp) ?_; refine AllReadyH.cons rfl (fun K' hK => ?_) AllReadyH.nil)
      go_simp
      (go_wp2_with fail; refine hK.out _ _ (hcc (F := fun k => k = g ∨ own (Value.slice Av nv cv) k) ((m12.mono (fun _ _ h => .inr h)).then_ (setc_mod wz g 1 _) (fun _ _ h => .inl h)) (fun h => h.elim (fun h => by omega) nga)) (fun hH => ?_); clear hK K'; try simp only [Act.put, List.setIfInBounds_toArray]; try simp only [List.getElem_toArray, List.getElem_cons_succ, List.getElem_cons_zero])
      refine wpAnyH_done (by kernel_rfl) ?_ _
    case' refine_2 =>
      go_simp
      refine hcT.mono ?_
      rintro e' w12 ⟨v12, rfl, o12, f12, x12⟩
      obtain ⟨A12, c12, hv12⟩ := o12.shape
      obtain ⟨n12, hn12⟩ : ∃ n, n = (x.vals.map sv).length := ⟨_, rfl⟩
      rw [← hn12] at hv12
      subst hv12
      replace hn12 := Lib.hid hn12
      have K12 := Kd.ext x12
      have c1a : w12.cell? ⟨g, 1, none⟩ = some (Value.slice Av nv cv) := K12.e.cell 1
      have xl : Ext w12 (w12.alloc (.cells #[sv x.typ, .slice A12 n12 c12] 46)) := (Mod.refl _ w12).alloc _
      have c1l : (w12.alloc (.cells #[sv x.typ, .slice A12 n12 c12] 46)).cell? ⟨g, 1, none⟩ = some (Value.slice Av nv cv) := (K12.ext xl).e.cell 1
      have yl := ext_trans x12 xl
      (go_wp2_with fail; refine hK.out _ _ (hcc x12 (fun h => h)) (fun hH => ?_); clear hK K'; try simp only [Act.put, List.setIfInBounds_toArray, List.set_cons_zero, List.set_cons_succ]; try simp only [List.getElem_toArray, List.getElem_cons_succ, List.getElem_cons_zero])
      (refine wpAnyH_take (i := 7) (oi := ⟨_, _, _, _, _, _⟩) (v := ?_) rfl (by kernel_rfl) (by kernel_rfl) (by kernel_rfl) (fun _ _ _ h => h) (Or.inl ⟨by kernel_rfl, ?_⟩) hH ?_; rotate_left; focus (intro wx hSw; (try dsimp only at hSw); go_simp; try with_reducible rfl)); try simp only [Act.put, List.setIfInBounds_toArray, List.set_cons_zero, List.set_cons_succ]; try simp only [List.getElem_toArray, List.getElem_cons_succ, List.getElem_cons_zero]
      refine wpAnyH_ready (rs := [1, 8]) (by kernel_rfl) (by simp) ?_
      refine AllReadyH.cons rfl (fun K' hK => ?_) (AllReadyH.cons rfl (fun K' hK => ?_) AllReadyH.nil)
      case' refine_1 =>
        go_simp
        (go_wp2_with fail; refine hK.out _ _ (hH) (fun hH => ?_); clear hK K'; try simp only [Act.put, List.setIfInBounds_toArray, List.set_cons_zero, List.set_cons_succ]; try simp only [List.getElem_toArray, List.getElem_cons_succ, List.getElem_cons_zero])
        (refine wpAnyH_ready (rs := [8]) (by kernel_rfl) (by simp) ?_; refine AllReadyH.cons rfl (fun K' hK => ?_) AllReadyH.nil)
        go_simp
        (go_wp2_with fail; refine hK.out _ _ (hcc yl (fun h => h)) (fun hH => ?_); clear hK K'; try simp only [Act.put, List.setIfInBounds_toArray, List.set_cons_zero, List.set_cons_succ]; try simp only [List.getElem_toArray, List.getElem_cons_succ, List.getElem_cons_zero])
        (refine wpAnyH_ready (rs := [9]) (by kernel_rfl) (by simp) ?_; refine AllReadyH.cons rfl (fun K' hK => ?_) AllReadyH.nil)
        refine step_appR (x := ((x.typ, Value.slice A12 n12 c12) : AtV)) tyAt atc_len K12.a.own rfl atc_ok hn1.out rfl rfl (.tmp 18) (.tmp 25) rfl rfl rfl ?_
        intro va' wz ka1 ka2 ka3
        obtain ⟨Aw, nw, cw, rfl⟩ : ∃ A n c, va' = Value.slice A n c := (by obtain ⟨A, c, h⟩ := ka1.shape; exact ⟨A, _, c, h⟩)
        have m12 : Mod (own (Value.slice Av nv cv)) wa.drew wz := x12.trans ka2 (fun _ _ h => h.elim) (fun _ _ h => h)
        have nga : ¬ own (Value.slice Av nv cv) ga := fun h => by have := hva _ h; omega
        have BE := K12.e.mod ka2 (fun ho => ownR_ne_blk K12.a.own K12.e (by decide) ho rfl)
        have fz := BE.frozen 1
        have cz1 : wz.cell? ⟨g, 1, none⟩ = some (Value.slice Av nv cv) := BE.cell 1
        (refine hK.out _ _ (hcc m12 nga) (fun hH => ?_); clear hK K'; try simp only [Act.put, List.setIfInBounds_toArray]; try simp only [List.getElem_toArray, List.getElem_cons_succ, List.getElem_cons_zero])
        (refine wpAnyH_take (i := 10) (oi := ⟨_, _, _, _, _, _⟩) (v := ?_) rfl (by kernel_rfl) (by kernel_rfl) (by kernel_rfl) (fun _ _ _ h => h) (Or.inl ⟨by kernel_rfl, ?_⟩) hH ?_; rotate_left; focus (intro wx hSw; (try dsimp only at hSw); go_simp; try with_reducible rfl)); try simp only [Act.put, List.setIfInBounds_toArray, List.set_cons_zero, List.set_cons_succ]; try simp only [List.getElem_toArray, List.getElem_cons_succ, List.getElem_cons_zero]
        (refine wpAnyH_ready (rs := [11]) (by kernel_rfl) (by simp) ?_; refine AllReadyH.cons rfl (fun K' hK => ?_) AllReadyH.nil)
        go_simp
        (go_wp2_with fail; refine hK.out _ _ (hcc (F := fun k => k = g ∨ own (Value.slice Av nv cv) k) ((m12.mono (fun _ _ h => .inr h)).then_ (setc_mod wz g 1 _) (fun _ _ h => .inl h)) (fun h => h.elim (fun h => by omega) nga)) (fun hH => ?_); clear hK K'; try simp only [Act.put, List.setIfInBounds_toArray]; try simp only [List.getElem_toArray, List.getElem_cons_succ, List.getElem_cons_zero])
        refine wpAnyH_done (by kernel_rfl) ?_ _
      case' refine_2 =>
        go_simp
        (go_wp2_with fail; refine hK.out _ _ (hcc yl (fun h => h)) (fun hH => ?_); clear hK K'; try simp only [Act.put, List.setIfInBounds_toArray, List.set_cons_zero, List.set_cons_succ]; try simp only [List.getElem_toArray, List.getElem_cons_succ, List.getElem_cons_zero])
        (refine wpAnyH_ready (rs := [1]) (by kernel_rfl) (by simp) ?_; refine AllReadyH.cons rfl (fun K' hK => ?_) AllReadyH.nil)
        go_simp
        (go_wp2_with fail; refine hK.out _ _ (hH) (fun hH => ?_); clear hK K'; try simp only [Act.put, List.setIfInBounds_toArray, List.set_cons_zero, List.set_cons_succ]; try simp only [List.getElem_toArray, List.getElem_cons_succ, List.getElem_cons_zero])
        (refine wpAnyH_ready (rs := [9]) (by kernel_rfl) (by simp) ?_; refine AllReadyH.cons rfl (fun K' hK => ?_) AllReadyH.nil)
        refine step_appR (x := ((x.typ, Value.slice A12 n12 c12) : AtV)) tyAt atc_len K12.a.own rfl atc_ok hn1.out rfl rfl (.tmp 18) (.tmp 25) rfl rfl rfl ?_
        intro va' wz ka1 ka2 ka3
        obtain ⟨Aw, nw, cw, rfl⟩ : ∃ A n c, va' = Value.slice A n c := (by obtain ⟨A, c, h⟩ := ka1.shape; exact ⟨A, _, c, h⟩)
        have m12 : Mod (own (Value.slice Av nv cv)) wa.drew wz := x12.trans ka2 (fun _ _ h => h.elim) (fun _ _ h => h)
        have nga : ¬ own (Value.slice Av nv cv) ga := fun h => by have := hva _ h; omega
        have BE := K12.e.mod ka2 (fun ho => ownR_ne_blk K12.a.own K12.e (by decide) ho rfl)
        have fz := BE.frozen 1
        have cz1 : wz.cell? ⟨g, 1, none⟩ = some (Value.slice Av nv cv) := BE.cell 1
        (refine hK.out _ _ (hcc m12 nga) (fun hH => ?_); clear hK K'; try simp only [Act.put, List.setIfInBounds_toArray]; try simp only [List.getElem_toArray, List.getElem_cons_succ, List.getElem_cons_zero])
        (refine wpAnyH_take (i := 10) (oi := ⟨_, _, _, _, _, _⟩) (v := ?_) rfl (by kernel_rfl) (by kernel_rfl) (by kernel_rfl) (fun _ _ _ h => h) (Or.inl ⟨by kernel_rfl, ?_⟩) hH ?_; rotate_left; focus (intro wx hSw; (try dsimp only at hSw); go_simp; try with_reducible rfl)); try simp only [Act.put, List.setIfInBounds_toArray, List.set_cons_zero, List.set_cons_succ]; try simp only [List.getElem_toArray, List.getElem_cons_succ, List.getElem_cons_zero]
        (refine wpAnyH_ready (rs := [11]) (by kernel_rfl) (by simp) ?_; refine AllReadyH.cons rfl (fun K' hK => ?_) AllReadyH.nil)
        go_simp
        (go_wp2_with fail; refine hK.out _ _ (hcc (F := fun k => k = g ∨ own (Value.slice Av nv cv) k) ((m12.mono (fun _ _ h => .inr h)).then_ (setc_mod wz g 1 _) (fun _ _ h => .inl h)) (fun h => h.elim (fun h => by omega) nga)) (fun hH => ?_); clear hK K'; try simp only [Act.put, List.setIfInBounds_toArray]; try simp only [List.getElem_toArray, List.getElem_cons_succ, List.getElem_cons_zero])
        refine wpAnyH_done (by kernel_rfl) ?_ _
    all_goals
      have KA := K12.addA (a := x) ka1 ka2 ka3 rfl o12 (fun k hk => by have := f12 k hk; have := Kd.ex.size; omega)
      rw [← hsn] at KA
      clear K12 c1a xl c1l yl ka1 ka2 ka3 m12 nga BE fz cz1 hH hcT Kd BAd c1 hcc o12 f12 x12
      go_wp2_with fail
      exact ⟨⟨k + 1, _, _, by omega, by go_num, KA⟩, by simp [intOf] <;> omega⟩
end Go.Proofs.Ytlaaicdofompkaa
