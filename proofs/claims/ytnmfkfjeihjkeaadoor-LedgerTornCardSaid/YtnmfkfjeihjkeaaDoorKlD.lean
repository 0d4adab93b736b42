/- ledger: an entry laid. -/
import Derived.Test.YtnmfkfjeihjkeaaDoorKlC
import Derived.Test.YtnmfkfjeihjkeaaDoorAppS
import Derived.Deep.RegionLaw
namespace Go.Proofs.YtnmfkfjeihjkeaaDoor
open Go.RowKit Go.Maps Go.WideMaps
set_option maxRecDepth 100000

section
variable {P : Program} {w : World} {t e : TypeId} {z : Value} {bytes : Nat} {ops : Array Oper} {o : Oper} {a : Act} {Q : Exit → Act → World → Prop}
/-- append(v, bytes that were laid) at a step of a region that draws. -/
theorem step_app {K : Act → World → Prop} {E : Prop} (d : Tmp) (hT : SliceTy P t e z bytes) {v y : Value} {S : Nat → Prop} {xs news : List Value} (hown : Own w e v xs) (hr : Sl w S y news) (h1 : ∀ u ∈ news, u.oneCell' = true)
    (hn : (xs.length + news.length) * bytes ≤ 140737488355328) (hgd : o.guard = none) (hd : o.dst = some d) (s yy : Operand) (ho : o.op = .call { callee := .builtin .append, args := #[s, yy], argTypes := #[t, t] }) (hs : a.eval s = v) (hy : a.eval yy = y)
    (h : ∀ v' w', Own w' e v' (xs ++ news) → Mod (own v) w w' → Next w.heap.size v v' → K (a.put o.dst v') w') : if Region.wanted o (yielded ops a.tmps) = true then Oper.wp P o a w K Q else E := by
  have hw : Region.wanted o (yielded ops a.tmps) = true := by simp [Region.wanted, hgd]
  rw [if_pos hw]
  obtain ⟨v', w', hrun, h2, h3, h4⟩ := run_app (P := P) hT o.type hown hr h1 hn
  unfold Oper.wp execOp
  simp only [ho, resolve, invoke, builtin, Sem.run_bind, Sem.run_pure, Result.andThen_ok, List.map_toArray, List.map_cons, List.map_nil, hs, hy, hrun]
  simp only [Oper.upon, hd]
  have := h v' w' h2 h3 h4
  rw [hd] at this
  exact this
end
section
variable {T U V X : Nat → Prop} {w w' : World} {g bd : Nat} {dv ew y : Value} {vs : List Value} {l : Lst} {d d' : Ds} {b : List UInt8} {n : Nat}
/-- A Disk and a Ledger on it, apart, all in blocks of X that are there. -/
def LDk (X : Nat → Prop) (w : World) (bd : Nat) (d : Ds) (g : Nat) (l : Lst) : Prop :=
  ∃ T U dv ew vs, Dk T w (pv bd) d ∧ LgAt U w g bd dv ew vs l ∧ (∀ k, T k → ¬ U k) ∧ (∀ k, T k → X k ∧ k < w.heap.size) ∧ (∀ k, U k → X k ∧ k < w.heap.size)
def lappL (l : Lst) (b : List UInt8) : Lst := { l with es := l.es ++ [b] }
theorem next_sub {B : Nat} {v v' : Value} (h : Next B v v') {k : Nat} (hk : k < B) (ho : own v' k) : own v k := h.sub hk ho
theorem lapp_fin {T4 : Nat → Prop} {w4 w5 w6 : World} {u v6 : Value} (h4 : Dk T4 w4 (pv bd) d') (hT4 : ∀ k, T4 k → (T k ∨ w.heap.size ≤ k) ∧ k < w4.heap.size) (l4 : LgAt U w4 g bd dv ew vs l) (sep : ∀ k, T k → ¬ U k) (hT : ∀ k, T k → X k ∧ k < w.heap.size) (hU : ∀ k, U k → X k ∧ k < w.heap.size) (m4 : Mod T w w4)
    (hb : b.length ≤ 65536) (hes : l.es.length + 1 ≤ 100000) (o5 : Own w5 5 u (b.map bv)) (f5 : Fresh w4.heap.size u) (q5 : Ext w4 w5) (o6 : Own w6 32 v6 (vs ++ [u])) (m6 : Mod (own ew) (w5.alloc (.cells #[u] 32)) w6) (n6 : Next (w5.alloc (.cells #[u] 32)).heap.size ew v6) :
    LDk (Grow X w) (w6.setCell ⟨g, 4, none⟩ v6) bd d' g (lappL l b) ∧ Mod X w (w6.setCell ⟨g, 4, none⟩ v6) := by
  have hz4 := m4.size
  have hz5 := q5.size
  have hzA : w5.heap.size ≤ (w5.alloc (.cells #[u] 32)).heap.size := by simp
  have hz6 := m6.size
  have s7 : Mod (fun k => k = g) w6 (w6.setCell ⟨g, 4, none⟩ v6) := setg_mod _ _ _ _
  have hz7 := s7.size
  have m46 : Mod (own ew) w4 w6 := (q5.alloc (.cells #[u] 32)).trans m6 (fun _ _ h => h.elim) (fun _ _ h => h)
  have m47 : Mod (fun k => own ew k ∨ k = g) w4 (w6.setCell ⟨g, 4, none⟩ v6) := m46.trans s7 (fun _ _ h => .inl h) (fun _ _ h => .inr h)
  have hng : ¬ own ew g := fun h => (l4.entU g h).2 rfl
  have hgl : g < w.heap.size := (hU g l4.sg).2
  have hew : ∀ k, own ew k → U k := fun k hk => (l4.entU k hk).1
  have hv6 : ∀ k, own v6 k → own ew k ∨ w4.heap.size ≤ k := fun k hk => by
    rcases Nat.lt_or_ge k (w5.alloc (.cells #[u] 32)).heap.size with h | h
    · exact .inl (n6.sub h hk)
    · exact .inr (by omega)
  have hv6' : ∀ k, k < (w5.alloc (.cells #[u] 32)).heap.size → own v6 k → own ew k := fun k h hk => n6.sub h hk
  have hTU : ∀ k, T4 k → ¬ U k := fun k hk hu => by
    rcases (hT4 k hk).1 with h | h
    · exact sep k h hu
    · have := (hU k hu).2; omega
  have old : ∀ {y : Value} {e : List UInt8}, Bs w4 (fun k => U k ∧ k ≠ g ∧ ¬ own ew k) y e → Bs (w6.setCell ⟨g, 4, none⟩ v6) (fun k => (U k ∨ (w4.heap.size ≤ k ∧ k < (w6.setCell ⟨g, 4, none⟩ v6).heap.size)) ∧ k ≠ g ∧ ¬ own v6 k) y e := fun h =>
    (h.mod m47 fun k hk hs hF => hF.elim hs.2.2 hs.2.1).mono fun k _ hs => ⟨.inl hs.1, hs.2.1, fun ho => hs.2.2 (hv6' k (by have := (hU k hs.1).2; omega) ho)⟩
  refine ⟨⟨T4, fun k => U k ∨ (w4.heap.size ≤ k ∧ k < (w6.setCell ⟨g, 4, none⟩ v6).heap.size), dv, v6, vs ++ [u], h4.mod m47 (fun k _ hk hF => hF.elim (fun h => hTU k hk (hew k h)) fun h => hTU k hk (h ▸ l4.sg)), ?_, ?_, ?_, ?_⟩, ?_⟩
  · have hbk := (l4.blk.mod m46 hng).set_ 4 v6
    refine ⟨.inl l4.sg, hbk, old l4.dat, o6.mod s7 (fun k hk e => ?_), fun k hk => ?_, ?_, fun k x e hx he => ?_, fun e he => ?_, l4.pl, l4.bb, l4.dl, ?_⟩
    · subst e
      exact hng (hv6' _ (by omega) hk)
    · rcases hv6 k hk with h | h
      · exact ⟨.inl (hew k h), (l4.entU k h).2⟩
      · exact ⟨.inr ⟨h, Nat.lt_of_lt_of_le (o6.lt hk) hz7⟩, by omega⟩
    · simp [lappL, l4.len]
    · by_cases hlt : k < vs.length
      · rw [List.getElem?_append_left hlt] at hx
        rw [show (lappL l b).es = l.es ++ [b] from rfl, List.getElem?_append_left (by rw [← l4.len]; exact hlt)] at he
        exact old (l4.els k x e hx he)
      · rw [List.getElem?_append_right (by omega)] at hx
        rw [show (lappL l b).es = l.es ++ [b] from rfl, List.getElem?_append_right (by rw [← l4.len]; omega), ← l4.len] at he
        have hk0 : k - vs.length = 0 := by
          rcases Nat.eq_zero_or_pos (k - vs.length) with h0 | h0
          · exact h0
          · rw [List.getElem?_eq_none (by simp only [List.length_singleton]; omega)] at hx; cases hx
        rw [hk0] at hx he
        simp only [List.getElem?_cons_zero, Option.some.injEq] at hx he
        subst hx; subst he
        have hub : ∀ k, own u k → w4.heap.size ≤ k ∧ k < w5.heap.size := fun k hk => ⟨f5 k hk, o5.lt hk⟩
        have h1 : Bs (w5.alloc (.cells #[u] 32)) (own u) u b := (o5.mod ((Mod.refl (fun _ => False) _).alloc _) (fun _ _ h => h)).sl
        have h2 : Bs w6 (own u) u b := h1.mod m6 fun k _ hk ho => by have := hub k hk; have := l4.ents.lt ho; omega
        exact (h2.mod s7 fun k _ hk e => by have := hub k hk; omega).mono fun k _ hk => ⟨.inr ⟨(hub k hk).1, by have := (hub k hk).2; omega⟩, by have := hub k hk; omega, fun ho => by have := hub k hk; have := l4.ents.lt (hv6' k (by omega) ho); omega⟩
    · rcases List.mem_append.1 he with h | h
      · exact l4.small e h
      · rw [List.mem_singleton.1 h]; omega
    · show (l.es ++ [b]).length ≤ 100000
      rw [List.length_append, List.length_singleton]; omega
  · rintro k hk (h | h)
    · exact hTU k hk h
    · have := (hT4 k hk).2; omega
  · intro k hk
    refine ⟨?_, by have := (hT4 k hk).2; omega⟩
    rcases (hT4 k hk).1 with h | h
    · exact .inl (hT k h).1
    · exact .inr h
  · rintro k (h | h)
    · exact ⟨.inl (hU k h).1, by have := (hU k h).2; omega⟩
    · exact ⟨.inr (by omega), h.2⟩
  · exact m4.trans m47 (fun k _ h => (hT k h).1) (fun k _ h => h.elim (fun h => (hU k (hew k h)).1) fun h => h ▸ (hU g l4.sg).1)
set_option maxHeartbeats 16000000 in
theorem lapp_ok (h : Dk T w (pv bd) d) (hl : LgAt U w g bd dv ew vs l) (sep : ∀ k, T k → ¬ U k) (hT : ∀ k, T k → X k ∧ k < w.heap.size) (hU : ∀ k, U k → X k ∧ k < w.heap.size)
    (hdead : l.dead = false) (hy : Bs w V y b) (hV : ∀ k, V k → k < w.heap.size ∧ ¬ X k) (hb : b.length ≤ 65536) (hn : lastL5 l + 1 ≤ 1099511627776) (hes : l.es.length + 1 ≤ 100000) (hr : layD d l.p (lastL5 l + 1) b = (d', 0)) (hN : Nib w) :
    Calls Tryd.prog 35 #[pv g, y] w fun e w' => e = .returned (.tuple #[.int .i64 ((lastL5 l + 1 : Nat) : Int), .int .i64 0]) ∧ LDk (Grow X w) w' bd d' g (lappL l b) ∧ Mod X w w' := by
  obtain ⟨Ay, cy, rfl, y1, y2, y3, y4⟩ := hy.open_
  have c5 : w.cell? ⟨g, 5, none⟩ = some (.bool false) := by have := hl.blk.cell 5; rw [this, ← hdead]; rfl
  have hcl := last5_any hl
  have hb1 : decide ((65536 : Int) < (b.length : Int)) = false := dfalse (by omega)
  have hb2 : decide ((1099511627776 : Int) < (lastL5 l : Int) + 1) = false := dfalse (by omega)
  have hcy := fun k => lay5_any (w := w.drewN k) (h.ext ((Mod.refl _ _).drewN k)) (hl.ext ((Mod.refl _ _).drewN k)) sep (hy.drewN k) (fun k hk => (hV k hk).1) (by omega) (n := lastL5 l + 1) (by omega) hN
  rw [hr] at hcy
  have hcast : ((lastL5 l + 1 : Nat) : Int) = (lastL5 l : Int) + 1 := by omega
  rw [hcast] at hcy ⊢
  generalize hla : lastL5 l = la at *
  go_enter Tryd.func35, Tryd.ntmps35
  go_wp2_with fail
  refine hcl.mono ?_
  rintro e w1 ⟨rfl, k1, rfl⟩
  clear hcl
  replace hcy := hcy k1
  go_wp2_with fail
  refine hcy.mono ?_
  rintro e w4 ⟨rfl, h4, m4⟩
  replace m4 : Mod T w w4 := ((Mod.refl _ w).drewN k1).then_ m4 fun _ _ h => h
  have h4 := h4.cut
  have hz4 := m4.size
  have l4 := hl.mod m4 fun k _ hk hT => sep k hT hk
  have y4' := hy.mod m4 fun k hk hv hT' => (hV k hv).2 (hT k hT').1
  clear hcy hl h c5
  go_wp2_with fail
  have hev : ∀ {wx : World}, Ext w4 wx → wx.cell? ⟨g, 4, none⟩ = some ew ∧ wx.frozen? ⟨g, 4, none⟩ = false ∧ wx.cell? ⟨g, 0, none⟩ = some (pv bd) := fun q => by
    have hb := l4.blk.mod q (fun h => h)
    exact ⟨hb.cell 4, hb.frozen 4, hb.cell 0⟩
  have qA : Ext w4 ((w4.alloc (.cells #[.slice Ay b.length cy] 32)).drew) := ((Mod.refl _ _).alloc _).drew
  have q0 : Ext w4 w4.drew := (Mod.refl _ _).drew
  obtain ⟨e0, z0, k0⟩ := hev q0
  obtain ⟨eA, zA, kA⟩ := hev qA
  have hj : Calls Tryd.prog 70 #[.slice (some ⟨w4.heap.size, 0, none⟩) 1 1] ((w4.alloc (.cells #[.slice Ay b.length cy] 32)).drew) fun e w' => ∃ v', e = .returned v' ∧ Own w' 5 v' (b.map bv) ∧ Fresh w4.heap.size v' ∧ Ext w4 w' := by
    have hr := (Rw.one 32 y4').mod ((Mod.refl (fun _ => False) _).drew) (fun _ _ _ h => h)
    refine (join_any hr (by simp; omega)).mono fun e w' ⟨v', q1, q2, q3, q4⟩ => ⟨v', q1, by simpa using q2, q3.mono (by simp [World.drew]), ext_trans ((Mod.refl _ w4).alloc _).drew q4⟩
  have hng : ¬ own ew g := fun h => (l4.entU g h).2 rfl
  have hn1 : (vs.length + [Value.bool true].length) * 24 ≤ 140737488355328 := by have := l4.len; simp; omega
  have hst := fun (u v6 : Value) (w5 w6 : World) (ho : Own w5 5 u (b.map bv)) (hf : Fresh w4.heap.size u) (hx : Ext w4 w5) (h6 : Own w6 32 v6 (vs ++ [u])) (m6 : Mod (own ew) (w5.alloc (.cells #[u] 32)) w6) (n6 : Next (w5.alloc (.cells #[u] 32)).heap.size ew v6) =>
    lapp_fin (w := w) (X := X) h4 (fun k hk => ⟨hk.1, hk.2⟩) l4 sep hT hU m4 hb hes ho hf hx h6 m6 n6
  have hst2 : ∀ {u : Value} {w5 w6 : World}, Ext w4 w5 → Mod (own ew) (w5.alloc (.cells #[u] 32)) w6 → w6.cell? ⟨g, 4, none⟩ = some ew ∧ w6.frozen? ⟨g, 4, none⟩ = false ∧ w6.cell? ⟨g, 0, none⟩ = some (pv bd) := fun hx m6 => by
    have hb := (l4.blk.mod (hx.alloc _) (fun h => h)).mod m6 hng
    exact ⟨hb.cell 4, hb.frozen 4, hb.cell 0⟩
  have hown := fun {wx : World} (q : Ext w4 wx) => l4.ents.mod q (fun _ _ h => h)
  replace hst := Lib.hid hst
  clear l4 y4' y4 hy sep hT hU h4 m4 hr
  generalize b.length = bn at *
  generalize hbb : b.map bv = bb at *
  clear hbb
  go_region_law (first
      | ((with_reducible show (if Region.wanted (⟨some 41, _, _, _, _, _⟩ : Oper) _ = true then _ else _)); go_simp; (with_reducible refine hj.mono ?_); rintro e w5 ⟨u, rfl, o5, f5, q5⟩; obtain ⟨Au, cu, rfl⟩ := o5.shape; obtain ⟨e5, z5, k5⟩ := hev q5; obtain ⟨e6, z6, k6⟩ := hev (q5.alloc (.cells #[.slice Au bb.length cu] 32)))
      | (refine step_app 43 tyR (hown (q5.alloc (.cells #[.slice Au bb.length cu] 32))) (Sl.one w5 32 (.slice Au bb.length cu)) (fun x hx => by rw [List.mem_singleton.1 hx]; rfl) hn1 rfl rfl (.tmp 38) (.tmp 42) rfl rfl rfl ?_; intro v6 w6 o6 m6 n6; obtain ⟨A6, l6, c6, hv6⟩ : ∃ A n c, v6 = .slice A n c := (by obtain ⟨A, c, h⟩ := o6.shape; exact ⟨A, _, c, h⟩); subst hv6; obtain ⟨e7, z7, k7⟩ := hst2 q5 m6))
  all_goals
    have hfin := hst.out _ _ _ _ o5 f5 q5 o6 m6 n6
    clear hst hst2 hown hev hj
    go_wp2_with fail
    go_ret2
    exact ⟨rfl, hfin⟩
end
end Go.Proofs.YtnmfkfjeihjkeaaDoor
