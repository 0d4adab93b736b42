/- filter: the document's Same (as in the filter seats). -/
import Derived.Test.YtoockogceobfgaaGreatDnGm
import Derived.Test.YtoockogceobfgaaGreatFlG
import Derived.Test.YtoockogceobfgaaGreatMgEm
import Derived.Laws.StructEq
import Derived.Laws.Tables
namespace Go.Proofs.YtoockogceobfgaaGreat
open Go.RowKit
set_option maxRecDepth 100000

abbrev filV (F : Fi) (vs vk : Value) : Value := .agg #[.int .i64 F.kind, sv F.typ, sv F.val, vs, vk]
section
variable {w w0 : World} {p g : Nat} {t : TypeId} {c0 c1 c2 c3 c4 : Value}
theorem Blk.five (B : Blk w p t #[c0, c1, c2, c3, c4]) : (w.frozen? ⟨p, 0, none⟩ = false ∧ w.frozen? ⟨p, 1, none⟩ = false ∧ w.frozen? ⟨p, 2, none⟩ = false ∧ w.frozen? ⟨p, 3, none⟩ = false ∧ w.frozen? ⟨p, 4, none⟩ = false) ∧
    w.cell? ⟨p, 0, none⟩ = some c0 ∧ w.cell? ⟨p, 1, none⟩ = some c1 ∧ w.cell? ⟨p, 2, none⟩ = some c2 ∧ w.cell? ⟨p, 3, none⟩ = some c3 ∧ w.cell? ⟨p, 4, none⟩ = some c4 :=
  ⟨⟨B.frozen 0, B.frozen 1, B.frozen 2, B.frozen 3, B.frozen 4⟩, B.cell 0, B.cell 1, B.cell 2, B.cell 3, B.cell 4⟩
end
set_option maxHeartbeats 8000000 in
theorem rtexts_any {w : World} {S S' : Nat → Prop} {v v' : Value} {L M : List (List UInt8)} (h : Ss w S v L) (h' : Ss w S' v' M) :
    Calls Tryz.prog 69 #[v, v'] w fun e w' => e = .returned (.bool (decide (L = M))) ∧ Ext w w' := by
  obtain ⟨A, c, rfl, h1, h2, h3, h4⟩ := h.open_
  obtain ⟨B, d, rfl, j1, j2, j3, j4⟩ := h'.open_
  by_cases hl : L.length = M.length
  case neg =>
    have hb : ((L.length : Int) != (M.length : Int)) = true := by rw [bne_iff_ne]; omega
    go_enter Tryz.func69, Tryz.ntmps69
    go_wp2_with fail
    go_ret
    exact ⟨by rw [dfalse (fun h => hl (by rw [h]))]; rfl, Mod.refl _ _⟩
  have hb : ((L.length : Int) != (M.length : Int)) = false := by rw [bne_eq_false_iff_eq]; omega
  replace hl := Lib.hid hl
  go_enter Tryz.func69, Tryz.ntmps69
  go_wp2_with fail
  go_loopw [5] (fun i wr => ∃ k : Nat, k ≤ L.length ∧ i = .int .i64 k ∧ Hid (L.take k = M.take k) ∧ Ext w wr) (fun i _ => L.length - (intOf i).toNat)
  case atStart => exact ⟨0, Nat.zero_le _, rfl, Lib.hid (by simp), Mod.refl _ _⟩
  case round =>
    obtain ⟨k, hk, rfl, hs, q3⟩ := hrel
    by_cases hlt : k < L.length
    case neg =>
      have hbl : decide ((k : Int) < (L.length : Int)) = false := dfalse (by omega)
      have hres : L = M := by
        have := hs.out
        rwa [List.take_of_length_le (by omega), List.take_of_length_le (by have := hl.out; omega)] at this
      replace hres := Lib.hid hres
      go_wp2_with fail
      go_ret
      exact ⟨by rw [dtrue hres.out]; rfl, q3⟩
    have hbl : decide ((k : Int) < (L.length : Int)) = true := dtrue (by omega)
    have hlm : k < M.length := by have := hl.out; omega
    obtain ⟨ad, hA, hS, c0⟩ := (Cells.mod h4 q3 (fun _ _ _ h => h)).at_ hlt
    subst hA
    obtain ⟨bd, hB, hT, d0⟩ := (Cells.mod j4 q3 (fun _ _ _ h => h)).at_ hlm
    subst hB
    have hsn : L.take (k + 1) = M.take (k + 1) ↔ L[k] = M[k] := by
      rw [List.take_succ_eq_append_getElem hlt, List.take_succ_eq_append_getElem hlm, hs.out]
      exact ⟨fun h => List.singleton_inj.1 (List.append_cancel_left h), fun h => by rw [h]⟩
    have hno : L[k] ≠ M[k] → L ≠ M := fun hn he => hn (by subst he; rfl)
    have hi0 : (0 : Int) ≤ (k : Int) := by omega
    have hi1 : (k : Int) < (L.length : Int) := by omega
    have hi2 : (k : Int) < (M.length : Int) := by omega
    generalize L[k] = x at *
    generalize M[k] = y at *
    have hdw : ∀ m, Ext w (wr.drewN m) := fun m => q3.drewN m
    cases hxy : (x == y)
    case true =>
      have hs2 := Lib.hid (hsn.2 (by rw [beq_iff_eq] at hxy; exact hxy))
      clear hsn hno
      go_wp2_with fail
      go_quiet (fail)
      go_wp2_with fail
      exact ⟨⟨k + 1, by omega, by go_num, hs2, hdw _⟩, by simp [intOf] <;> omega⟩
    have hno2 := Lib.hid (hno (by rw [beq_eq_false_iff_ne] at hxy; exact hxy))
    clear hsn hno
    go_wp2_with fail
    go_quiet (fail)
    go_wp2_with fail
    go_ret
    exact ⟨by rw [dfalse hno2.out]; rfl, hdw _⟩

/-- Are two filters one? -/
def eqN : Nat → Fi → Fi → Bool
  | 0, _, _ => false
  | n + 1, F, G => F.kind == G.kind && (F.typ == G.typ && (F.val == G.val && (decide (F.subs = G.subs) && (decide (F.kids.length = G.kids.length) && (F.kids.zip G.kids).all (fun x => eqN n x.1 x.2)))))
theorem eqN_succ (n : Nat) (F G : Fi) : eqN (n + 1) F G = (F.kind == G.kind && (F.typ == G.typ && (F.val == G.val && (decide (F.subs = G.subs) && (decide (F.kids.length = G.kids.length) && (F.kids.zip G.kids).all (fun x => eqN n x.1 x.2)))))) := rfl
theorem zip_next {n : Nat} {K L : List Fi} {k : Nat} (h1 : k < K.length) (h2 : k < L.length) : ((K.take (k + 1)).zip (L.take (k + 1))).all (fun x => eqN n x.1 x.2) = (((K.take k).zip (L.take k)).all (fun x => eqN n x.1 x.2) && eqN n K[k] L[k]) := by
  rw [List.take_succ_eq_append_getElem h1, List.take_succ_eq_append_getElem h2, List.zip_append (by rw [List.length_take, List.length_take]; omega), List.all_append]
  simp
theorem zip_no {n : Nat} {K L : List Fi} {k : Nat} (h1 : k < K.length) (h2 : k < L.length) (h : eqN n K[k] L[k] = false) : (K.zip L).all (fun x => eqN n x.1 x.2) = false := by
  rw [List.all_eq_false]
  refine ⟨(K[k], L[k]), ?_, by simp [h]⟩
  have : (K.zip L)[k]? = some (K[k], L[k]) := by rw [List.getElem?_zip_eq_some]; exact ⟨List.getElem?_eq_getElem h1, List.getElem?_eq_getElem h2⟩
  exact List.mem_of_getElem? this
theorem eqN_refl : ∀ {n : Nat} {w : World} {F : Fi} {vs vk : Value}, FilN n w F vs vk → eqN n F F = true
  | 0, _, _, _, _, h => h.elim
  | n + 1, w, F, vs, vk, ⟨_, _, C, _, hC, hk⟩ => by
    rw [eqN_succ, beq_self_eq_true, beq_self_eq_true, beq_self_eq_true, decide_eq_true rfl, decide_eq_true rfl]
    simp only [Bool.true_and, List.all_eq_true]
    rintro ⟨a, b⟩ hab
    have h1 : ∀ (L : List Fi) (a b : Fi), (a, b) ∈ L.zip L → a = b ∧ a ∈ L := by
      intro L
      induction L with
      | nil => intro a b h; simp at h
      | cons c L ih =>
        intro a b h
        rw [List.zip_cons_cons, List.mem_cons] at h
        rcases h with h | h
        · cases h; exact ⟨rfl, List.mem_cons_self⟩
        · exact ⟨(ih a b h).1, List.mem_cons_of_mem _ (ih a b h).2⟩
    obtain ⟨rfl, ha⟩ := h1 _ _ _ hab
    rw [← hC] at ha
    obtain ⟨x, hx, rfl⟩ := List.mem_map.1 ha
    exact eqN_refl (hk x hx)
/-- What Same says. -/
def SameIH (n : Nat) : Prop := ∀ {w : World} {F G : Fi} {vs vk us uk : Value}, FilN n w F vs vk → FilN n w G us uk →
  Calls Tryz.prog 36 #[filV F vs vk, filV G us uk] w fun e w' => e = .returned (.bool (eqN n F G)) ∧ Ext w w'
set_option maxHeartbeats 32000000 in
theorem rsame_step {n : Nat} (ih : SameIH n) : SameIH (n + 1) := by
  intro w F G vs vk us uk h h'
  obtain ⟨hFB, ⟨As, cs, es⟩, hS, A, ca, ek, hop⟩ := h.open_
  obtain ⟨hGB, ⟨Bs', ds, fs⟩, hT, B, cb, fk, hoq⟩ := h'.open_
  have hkl := hFB.kl
  have hkl2 := hGB.kl
  have hkd := hFB.kd
  have hkd2 := hGB.kd
  obtain ⟨R, hR⟩ : ∃ R, R = eqN (n + 1) F G := ⟨_, rfl⟩
  rw [← hR]
  rw [eqN_succ] at hR
  show Calls Tryz.prog 36 #[.agg #[.int .i64 F.kind, sv F.typ, sv F.val, vs, vk], .agg #[.int .i64 G.kind, sv G.typ, sv G.val, us, uk]] w _
  obtain ⟨K, hKs⟩ : ∃ T, T = F.kids := ⟨_, rfl⟩
  obtain ⟨L, hLs⟩ : ∃ T, T = G.kids := ⟨_, rfl⟩
  rw [← hKs] at hkl ek hop hR
  rw [← hLs] at hkl2 fk hoq hR
  obtain ⟨X, hXs⟩ : ∃ T, T = F.subs := ⟨_, rfl⟩
  obtain ⟨Y, hYs⟩ : ∃ T, T = G.subs := ⟨_, rfl⟩
  rw [← hXs] at es hS hR
  rw [← hYs] at fs hT hR
  generalize F.kind = kd at *
  generalize F.typ = T at *
  generalize F.val = V at *
  generalize G.kind = kd' at *
  generalize G.typ = T' at *
  generalize G.val = V' at *
  obtain ⟨m, hm⟩ : ∃ m, m = X.length := ⟨_, rfl⟩
  obtain ⟨m', hm'⟩ : ∃ m, m = Y.length := ⟨_, rfl⟩
  obtain ⟨q, hq⟩ : ∃ m, m = K.length := ⟨_, rfl⟩
  obtain ⟨q', hq'⟩ : ∃ m, m = L.length := ⟨_, rfl⟩
  rw [← hm] at es
  rw [← hm'] at fs
  rw [← hq] at ek hkl hR
  rw [← hq'] at fk hkl2 hR
  subst es ek fs fk
  obtain ⟨w1, hw1⟩ : ∃ x, x = (w.alloc (.cells #[.int .i64 kd, sv T, sv V, .slice As m cs, .slice A q ca] 26)).alloc (.cells #[.int .i64 kd', sv T', sv V', .slice Bs' m' ds, .slice B q' cb] 26) := ⟨_, rfl⟩
  obtain ⟨p, hp⟩ : ∃ p, p = w.heap.size := ⟨_, rfl⟩
  have x1 : Ext w w1 := by rw [hw1]; exact ((Mod.refl _ w).alloc _).alloc _
  have BP : Blk w1 p 26 #[.int .i64 kd, sv T, sv V, .slice As m cs, .slice A q ca] := by rw [hw1, hp]; exact (Blk.new w _ _).alloc _
  have BQ : Blk w1 (p + 1) 26 #[.int .i64 kd', sv T', sv V', .slice Bs' m' ds, .slice B q' cb] := by
    rw [hw1, hp]
    have := Blk.new (w.alloc (.cells #[.int .i64 kd, sv T, sv V, .slice As m cs, .slice A q ca] 26)) 26 #[.int .i64 kd', sv T', sv V', .slice Bs' m' ds, .slice B q' cb]
    simpa using this
  have hcc : ∀ {wx : World}, Ext w1 wx → wx.cell? ⟨p, 4, none⟩ = some (.slice A q ca) ∧ wx.cell? ⟨p + 1, 4, none⟩ = some (.slice B q' cb) := fun x => ⟨(BP.mod x (fun h => h)).cell 4, (BQ.mod x (fun h => h)).cell 4⟩
  obtain ⟨-, p0, p1, p2, p3, p4⟩ := BP.five
  obtain ⟨-, o0, o1, o2, o3, o4⟩ := BQ.five
  have htx := rtexts_any (Sl.ext hS x1) (Sl.ext hT x1)
  replace hm := Lib.hid hm
  replace hm' := Lib.hid hm'
  replace hq := Lib.hid hq
  replace hq' := Lib.hid hq'
  replace hw1 := Lib.hid hw1
  replace hp := Lib.hid hp
  replace hR := Lib.hid hR
  replace htx := Lib.hid htx
  clear BP BQ hS hT h h' hFB hGB
  go_enter Tryz.func36, Tryz.ntmps36
  go_upto_region 1 with fail
  rw [← hw1.out, ← hp.out]
  clear hw1 hp
  cases hk : (kd == kd')
  · have hb : (kd != kd') = true := by rw [bne, hk]; rfl
    have hr : Hid (R = false) := Lib.hid (by rw [hR.out, hk]; rfl)
    clear hR htx hop hoq
    go_wp2_with fail
    go_ret
    exact ⟨by rw [hr.out]; rfl, x1⟩
  have hb : (kd != kd') = false := by rw [bne, hk]; rfl
  cases hT : (T == T')
  · have hr : Hid (R = false) := Lib.hid (by rw [hR.out, hk, hT]; rfl)
    clear hR htx hop hoq
    go_wp2_with fail
    go_ret
    exact ⟨by rw [hr.out]; rfl, x1⟩
  cases hV : (V == V')
  · have hr : Hid (R = false) := Lib.hid (by rw [hR.out, hk, hT, hV]; rfl)
    clear hR htx hop hoq
    go_wp2_with fail
    go_ret
    exact ⟨by rw [hr.out]; rfl, x1⟩
  have hR2 : R = (decide (X = Y) && (decide (q = q') && (K.zip L).all fun x => eqN n x.fst x.snd)) := by rw [hR.out, hk, hT, hV]; rfl
  replace hR2 := Lib.hid hR2
  clear hR
  cases hx : decide (X = Y)
  · have hr : Hid (R = false) := Lib.hid (by rw [hR2.out, hx]; rfl)
    rw [hx] at htx
    clear hR2 hop hoq hx
    go_wp2_with fail
    refine htx.out.mono ?_
    rintro e w2 ⟨rfl, x2⟩
    go_wp2_with fail
    go_ret
    exact ⟨by rw [hr.out]; rfl, ext_trans x1 x2⟩
  rw [hx] at htx
  have hR3 : R = (decide (q = q') && (K.zip L).all fun x => eqN n x.fst x.snd) := by rw [hR2.out, hx]; rfl
  replace hR3 := Lib.hid hR3
  clear hR2 hx
  by_cases hqq : q = q'
  rotate_left
  · have hr : Hid (R = false) := Lib.hid (by rw [hR3.out, dfalse hqq]; rfl)
    have hqb : ((q : Int) != (q' : Int)) = true := bne_iff_ne.2 (by omega)
    clear hR3 hop hoq
    go_wp2_with fail
    refine htx.out.mono ?_
    rintro e w2 ⟨rfl, x2⟩
    obtain ⟨g4, g5⟩ := hcc x2
    clear p0 p1 p2 p3 p4 o0 o1 o2 o3 o4
    go_wp2_with fail
    go_ret
    exact ⟨by rw [hr.out]; rfl, ext_trans x1 x2⟩
  have hr : R = (K.zip L).all fun x => eqN n x.fst x.snd := by rw [hR3.out, dtrue hqq]; rfl
  have hqb : ((q : Int) != (q' : Int)) = false := by rw [hqq]; exact bne_self_eq_false _
  have hql : q' = q := hqq.symm
  replace hr := Lib.hid hr
  replace hql := Lib.hid hql
  clear hR3 hqq
  go_wp2_with fail
  refine htx.out.mono ?_
  rintro e w2 ⟨rfl, x2⟩
  obtain ⟨g4, g5⟩ := hcc x2
  clear p0 p1 p2 p3 p4 o0 o1 o2 o3 o4 htx hk hT hV hb
  go_wp2_with fail
  clear g4 g5 hqb
  go_loopw [5] (fun i wr => ∃ k : Nat, k ≤ q ∧ i = .int .i64 k ∧ Hid (((K.take k).zip (L.take k)).all (fun x => eqN n x.1 x.2) = true) ∧ Ext w1 wr) (fun i _ => q - (intOf i).toNat)
  case atStart => exact ⟨0, Nat.zero_le _, rfl, Lib.hid (by simp), x2⟩
  case round =>
    clear x2
    obtain ⟨k, hkq, rfl, hal, x3⟩ := hrel
    obtain ⟨g4, g5⟩ := hcc x3
    by_cases hlt : k < q
    case neg =>
      have hbl : decide ((k : Int) < (q : Int)) = false := dfalse (by omega)
      have hr2 : Hid (R = true) := Lib.hid (by
        have h1 := hal.out
        rw [List.take_of_length_le (by have := hq.out; omega), List.take_of_length_le (by have := hq'.out; have := hql.out; omega)] at h1
        rw [hr.out, h1])
      clear hal hr hop hoq
      go_wp2_with fail
      go_ret
      exact ⟨by rw [hr2.out]; rfl, ext_trans x1 x3⟩
    have hbl : decide ((k : Int) < (q : Int)) = true := dtrue (by omega)
    have hi0 : (0 : Int) ≤ (k : Int) := by omega
    have hi1 : (k : Int) < (q : Int) := by omega
    have hi2 : (k : Int) < (q' : Int) := by have := hql.out; omega
    have hkK : k < K.length := by have := hq.out; omega
    have hkL : k < L.length := by have := hq'.out; have := hql.out; omega
    obtain ⟨ag, ys, yk, e2, a0, a1, a2, a3, a4, hF⟩ := hop k hkK
    obtain ⟨bg, zs, zk, e3, b0, b1, b2, b3, b4, hG⟩ := hoq k hkL
    subst e2 e3
    have y3 := ext_trans x1 x3
    have hzn := zip_next (n := n) hkK hkL
    have hzo := zip_no (n := n) hkK hkL
    have hcall := fun {wx : World} (x : Ext w wx) => ih (hF.ext x) (hG.ext x)
    have hss := hF.shape
    have hsz := hG.shape
    generalize K[k] = xF at *
    generalize L[k] = xG at *
    obtain ⟨⟨A3, m3, c3, rfl⟩, A4, m4, c4, rfl⟩ := hss
    obtain ⟨⟨A5, m5, c5, rfl⟩, A6, m6, c6, rfl⟩ := hsz
    have hall : ∀ {wx : World}, Ext w1 wx → wx.cell? ⟨p, 4, none⟩ = some (.slice (some ag) q ca) ∧ wx.cell? ⟨p + 1, 4, none⟩ = some (.slice (some bg) q' cb) ∧ wx.cell? (ag.add (k * 5)) = some (.int .i64 xF.kind) ∧ wx.cell? ⟨(ag.add (k * 5)).block, (ag.add (k * 5)).off + 1, none⟩ = some (sv xF.typ) ∧ wx.cell? ⟨(ag.add (k * 5)).block, (ag.add (k * 5)).off + 2, none⟩ = some (sv xF.val) ∧ wx.cell? ⟨(ag.add (k * 5)).block, (ag.add (k * 5)).off + 3, none⟩ = some (.slice A3 m3 c3) ∧ wx.cell? ⟨(ag.add (k * 5)).block, (ag.add (k * 5)).off + 4, none⟩ = some (.slice A4 m4 c4) ∧ wx.cell? (bg.add (k * 5)) = some (.int .i64 xG.kind) ∧ wx.cell? ⟨(bg.add (k * 5)).block, (bg.add (k * 5)).off + 1, none⟩ = some (sv xG.typ) ∧ wx.cell? ⟨(bg.add (k * 5)).block, (bg.add (k * 5)).off + 2, none⟩ = some (sv xG.val) ∧ wx.cell? ⟨(bg.add (k * 5)).block, (bg.add (k * 5)).off + 3, none⟩ = some (.slice A5 m5 c5) ∧ wx.cell? ⟨(bg.add (k * 5)).block, (bg.add (k * 5)).off + 4, none⟩ = some (.slice A6 m6 c6) := fun x => ⟨(hcc x).1, (hcc x).2, ext_cell (ext_trans x1 x) a0, ext_cell (ext_trans x1 x) a1, ext_cell (ext_trans x1 x) a2, ext_cell (ext_trans x1 x) a3, ext_cell (ext_trans x1 x) a4, ext_cell (ext_trans x1 x) b0, ext_cell (ext_trans x1 x) b1, ext_cell (ext_trans x1 x) b2, ext_cell (ext_trans x1 x) b3, ext_cell (ext_trans x1 x) b4⟩
    clear a0 a1 a2 a3 a4 b0 b1 b2 b3 b4 hop hoq hF hG hkK hkL g4 g5
    obtain ⟨g4, g5, -⟩ := hall x3
    go_upto_region 6 with fail
    have z0 : Ext w1 wr.drew := x3.drew
    cases hqv : eqN n xF xG
    · have hr2 : Hid (R = false) := Lib.hid (by rw [hr.out, hzo hqv])
      rw [hqv] at hcall
      replace hcall := fun {wx : World} (x : Ext w wx) => Lib.hid (hcall x)
      clear hzn hzo hal hr hqv
      go_region_held3 (fun wx => wx.cell? ⟨p, 4, none⟩ = some (.slice (some ag) q ca) ∧ wx.cell? ⟨p + 1, 4, none⟩ = some (.slice (some bg) q' cb) ∧ wx.cell? (ag.add (k * 5)) = some (.int .i64 xF.kind) ∧ wx.cell? ⟨(ag.add (k * 5)).block, (ag.add (k * 5)).off + 1, none⟩ = some (sv xF.typ) ∧ wx.cell? ⟨(ag.add (k * 5)).block, (ag.add (k * 5)).off + 2, none⟩ = some (sv xF.val) ∧ wx.cell? ⟨(ag.add (k * 5)).block, (ag.add (k * 5)).off + 3, none⟩ = some (.slice A3 m3 c3) ∧ wx.cell? ⟨(ag.add (k * 5)).block, (ag.add (k * 5)).off + 4, none⟩ = some (.slice A4 m4 c4) ∧ wx.cell? (bg.add (k * 5)) = some (.int .i64 xG.kind) ∧ wx.cell? ⟨(bg.add (k * 5)).block, (bg.add (k * 5)).off + 1, none⟩ = some (sv xG.typ) ∧ wx.cell? ⟨(bg.add (k * 5)).block, (bg.add (k * 5)).off + 2, none⟩ = some (sv xG.val) ∧ wx.cell? ⟨(bg.add (k * 5)).block, (bg.add (k * 5)).off + 3, none⟩ = some (.slice A5 m5 c5) ∧ wx.cell? ⟨(bg.add (k * 5)).block, (bg.add (k * 5)).off + 4, none⟩ = some (.slice A6 m6 c6)) (first | exact hall z0 | exact hall z1) (first
        | (go_at_call 36; (with_reducible refine (hcall (ext_trans x1 z0)).out.mono ?_); rintro e7 w7 ⟨rfl, x7⟩; have z1 := ext_trans z0 x7))
      go_wp2_with fail
      go_ret
      exact ⟨by rw [hr2.out]; rfl, ext_trans x1 z1⟩
    · have hal2 := Lib.hid (show ((K.take (k + 1)).zip (L.take (k + 1))).all (fun x => eqN n x.1 x.2) = true by rw [hzn, hal.out, hqv]; rfl)
      rw [hqv] at hcall
      replace hcall := fun {wx : World} (x : Ext w wx) => Lib.hid (hcall x)
      clear hzn hzo hal hr hqv
      go_region_held3 (fun wx => wx.cell? ⟨p, 4, none⟩ = some (.slice (some ag) q ca) ∧ wx.cell? ⟨p + 1, 4, none⟩ = some (.slice (some bg) q' cb) ∧ wx.cell? (ag.add (k * 5)) = some (.int .i64 xF.kind) ∧ wx.cell? ⟨(ag.add (k * 5)).block, (ag.add (k * 5)).off + 1, none⟩ = some (sv xF.typ) ∧ wx.cell? ⟨(ag.add (k * 5)).block, (ag.add (k * 5)).off + 2, none⟩ = some (sv xF.val) ∧ wx.cell? ⟨(ag.add (k * 5)).block, (ag.add (k * 5)).off + 3, none⟩ = some (.slice A3 m3 c3) ∧ wx.cell? ⟨(ag.add (k * 5)).block, (ag.add (k * 5)).off + 4, none⟩ = some (.slice A4 m4 c4) ∧ wx.cell? (bg.add (k * 5)) = some (.int .i64 xG.kind) ∧ wx.cell? ⟨(bg.add (k * 5)).block, (bg.add (k * 5)).off + 1, none⟩ = some (sv xG.typ) ∧ wx.cell? ⟨(bg.add (k * 5)).block, (bg.add (k * 5)).off + 2, none⟩ = some (sv xG.val) ∧ wx.cell? ⟨(bg.add (k * 5)).block, (bg.add (k * 5)).off + 3, none⟩ = some (.slice A5 m5 c5) ∧ wx.cell? ⟨(bg.add (k * 5)).block, (bg.add (k * 5)).off + 4, none⟩ = some (.slice A6 m6 c6)) (first | exact hall z0 | exact hall z1) (first
        | (go_at_call 36; (with_reducible refine (hcall (ext_trans x1 z0)).out.mono ?_); rintro e7 w7 ⟨rfl, x7⟩; have z1 := ext_trans z0 x7))
      go_wp2_with fail
      exact ⟨⟨k + 1, by omega, by go_num, hal2, z1⟩, by simp [intOf] <;> omega⟩
theorem rsame_any : ∀ n, SameIH n
  | 0 => fun h => h.elim
  | n + 1 => rsame_step (rsame_any n)
end Go.Proofs.YtoockogceobfgaaGreat
namespace Go.Proofs.YtoockogceobfgaaGreat
open Go.RowKit
set_option maxRecDepth 100000

instance : DecidableEq Md := fun a b => decidable_of_iff (a.kind = b.kind ∧ a.typ = b.typ ∧ a.vals = b.vals) (by cases a; cases b; simp)
instance : DecidableEq Att := fun a b => decidable_of_iff (a.typ = b.typ ∧ a.vals = b.vals) (by cases a; cases b; simp)
abbrev fi0 : Fi := .mk 0 [] [] [] []
/-- A request with nothing that its Kind does not name. -/
def bareQ (r : Rq) : Rq where
  num := r.num
  kind := r.kind
  dn := if r.kind = 2 ∨ r.kind = 16 then [] else r.dn
  pass := if r.kind = 0 then r.pass else []
  scope := if r.kind = 3 then r.scope else 0
  limit := if r.kind = 3 then r.limit else 0
  fil := if r.kind = 3 then r.fil else fi0
  want := if r.kind = 3 then r.want else []
  mods := if r.kind = 6 then r.mods else []
  ats := if r.kind = 8 then r.ats else []
  rdn := if r.kind = 12 then r.rdn else []
  keep := if r.kind = 12 then r.keep else false
  above := if r.kind = 12 then r.above else false
  up := if r.kind = 12 then r.up else []
  avt := if r.kind = 14 then r.avt else []
  avv := if r.kind = 14 then r.avv else []
  which := if r.kind = 16 then r.which else 0
/-- Are two requests one, lists and filters aside? -/
def plainQ (a b : Rq) : Bool := a.num == b.num && (a.kind == b.kind && (a.dn == b.dn && (a.pass == b.pass && (a.scope == b.scope && (a.limit == b.limit && (a.rdn == b.rdn && (a.keep == b.keep && (a.above == b.above && (a.up == b.up && (decide ((a.avt, a.avv) = (b.avt, b.avv)) && a.which == b.which))))))))))
/-- Are two requests one? -/
def sameQ (n : Nat) (a b : Rq) : Bool := plainQ a b && (decide (a.want = b.want) && (decide (a.ats = b.ats) && (eqN n a.fil b.fil && decide (a.mods = b.mods))))
abbrev numQ (n : Int) : Bool := decide (0 ≤ n ∧ n ≤ 2147483647)
abbrev mdQ (m : Md) : Bool := decide (0 ≤ m.kind ∧ m.kind ≤ 2 ∧ m.vals.length ≤ 64)
abbrev atQ (a : Att) : Bool := decide (a.vals.length ≤ 64)
/-- May what a Kind names be? -/
def fitsQ (n : Nat) (r : Rq) : Bool :=
  if r.kind = 0 ∨ r.kind = 2 ∨ r.kind = 10 ∨ r.kind = 14 then true
  else if r.kind = 3 then decide (0 ≤ r.scope) && (decide (r.scope ≤ 2) && (numQ r.limit && (isN n r.fil && decide (r.want.length ≤ 64))))
  else if r.kind = 6 then decide (r.mods.length ≤ 64) && r.mods.all mdQ
  else if r.kind = 8 then decide (r.ats.length ≤ 64) && r.ats.all atQ
  else if r.kind = 12 then r.above || decide (r.up = [])
  else if r.kind = 16 then numQ r.which
  else false
/-- May a request be? The program's way. -/
def mayQ (n : Nat) (r : Rq) : Bool := numQ r.num && (decide (r.num ≠ 0) && (fitsQ n r && (sameQ n r (bareQ r) && decide ((reqB n r).length ≤ 65536))))
/-- Are all lists short? -/
def listsQ (r : Rq) : Bool := decide (r.want.length ≤ 64 ∧ r.mods.length ≤ 64 ∧ r.ats.length ≤ 64) && (r.mods.all mdQ && r.ats.all atQ)
instance (k : Int) : Decidable (isOp k) := by unfold isOp; infer_instance
/-- May a request be? The document's way. -/
def rmayQ (n : Nat) (r : Rq) : Bool :=
  decide (isOp r.kind ∧ 1 ≤ r.num ∧ r.num ≤ 2147483647 ∧ 0 ≤ r.scope ∧ r.scope ≤ 2 ∧ 0 ≤ r.limit ∧ r.limit ≤ 2147483647 ∧ 0 ≤ r.which ∧ r.which ≤ 2147483647) &&
    (listsQ r && (decide (r.kind = 3 → isN n r.fil = true) && (decide (r.above = false → r.up = []) && (sameQ n r (bareQ r) && decide ((reqB n r).length ≤ 65536)))))
theorem plainQ_iff {a b : Rq} : plainQ a b = true ↔ a.num = b.num ∧ a.kind = b.kind ∧ a.dn = b.dn ∧ a.pass = b.pass ∧ a.scope = b.scope ∧ a.limit = b.limit ∧ a.rdn = b.rdn ∧ a.keep = b.keep ∧ a.above = b.above ∧ a.up = b.up ∧ (a.avt = b.avt ∧ a.avv = b.avv) ∧ a.which = b.which := by
  simp only [plainQ, Bool.and_eq_true, beq_iff_eq, decide_eq_true_eq, Prod.mk.injEq]
theorem sameQ_iff {n : Nat} {a b : Rq} : sameQ n a b = true ↔ plainQ a b = true ∧ a.want = b.want ∧ a.ats = b.ats ∧ eqN n a.fil b.fil = true ∧ a.mods = b.mods := by
  simp only [sameQ, Bool.and_eq_true, decide_eq_true_eq]
set_option maxHeartbeats 4000000 in
theorem may_same (n : Nat) (r : Rq) : rmayQ n r = mayQ n r := by
  rw [Bool.eq_iff_iff]
  simp only [rmayQ, mayQ, Bool.and_eq_true, decide_eq_true_eq, listsQ]
  constructor
  · rintro ⟨⟨ho, h1, h2, h3, h4, h5, h6, h7, h8⟩, ⟨⟨g1, g2, g3⟩, g4, g5⟩, h9, h10, h11, h12⟩
    refine ⟨⟨by omega, h2⟩, by omega, ?_, h11, h12⟩
    unfold fitsQ
    rcases ho with e | e | e | e | e | e | e | e | e
    · rw [if_pos (by omega)]
    · rw [if_pos (by omega)]
    · rw [if_neg (by omega), if_pos e, h9 e]
      simp [numQ, h3, h4, h5, h6, g1]
    · rw [if_neg (by omega), if_neg (by omega), if_pos e, g4]
      simp [g2]
    · rw [if_neg (by omega), if_neg (by omega), if_neg (by omega), if_pos e, g5]
      simp [g3]
    · rw [if_pos (by omega)]
    · rw [if_neg (by omega), if_neg (by omega), if_neg (by omega), if_neg (by omega), if_pos e]
      cases ha : r.above
      · simp [h10 ha]
      · rfl
    · rw [if_pos (by omega)]
    · rw [if_neg (by omega), if_neg (by omega), if_neg (by omega), if_neg (by omega), if_neg (by omega), if_pos e]
      simp [numQ, h7, h8]
  · rintro ⟨⟨h1, h2⟩, h0, hf, hs, hl⟩
    have hs0 := hs
    rw [sameQ_iff, plainQ_iff] at hs
    obtain ⟨⟨s1, s2, s3, s4, s5, s6, s7, s8, s9, s10, s11, s12⟩, s13, s14, s15, s16⟩ := hs
    simp only [bareQ] at s5 s6 s9 s10 s12 s13 s14 s16
    unfold fitsQ at hf
    have e1 : r.want = [] → r.want.length ≤ 64 := fun h => by rw [h]; simp
    have e2 : r.mods = [] → r.mods.length ≤ 64 ∧ r.mods.all mdQ = true := fun h => by rw [h]; simp
    have e3 : r.ats = [] → r.ats.length ≤ 64 ∧ r.ats.all atQ = true := fun h => by rw [h]; simp
    have ho : isOp r.kind := by
      unfold isOp
      by_cases q0 : r.kind = 0 ∨ r.kind = 2 ∨ r.kind = 10 ∨ r.kind = 14
      · omega
      rw [if_neg q0] at hf
      by_cases q1 : r.kind = 3
      · omega
      rw [if_neg q1] at hf
      by_cases q2 : r.kind = 6
      · omega
      rw [if_neg q2] at hf
      by_cases q3 : r.kind = 8
      · omega
      rw [if_neg q3] at hf
      by_cases q4 : r.kind = 12
      · omega
      rw [if_neg q4] at hf
      by_cases q5 : r.kind = 16
      · omega
      rw [if_neg q5] at hf
      cases hf
    have hsc : r.kind ≠ 3 → r.scope = 0 ∧ r.limit = 0 ∧ r.want = [] := fun h => by
      rw [if_neg h] at s5 s6 s13
      exact ⟨s5, s6, s13⟩
    have hwh : r.kind ≠ 16 → r.which = 0 := fun h => by rw [if_neg h] at s12; exact s12
    have hmo : r.kind ≠ 6 → r.mods = [] := fun h => by rw [if_neg h] at s16; exact s16
    have hat : r.kind ≠ 8 → r.ats = [] := fun h => by rw [if_neg h] at s14; exact s14
    have hab : r.kind ≠ 12 → r.up = [] := fun h => by rw [if_neg h] at s10; exact s10
    have k3 : r.kind = 3 → 0 ≤ r.scope ∧ r.scope ≤ 2 ∧ (0 ≤ r.limit ∧ r.limit ≤ 2147483647) ∧ isN n r.fil = true ∧ r.want.length ≤ 64 := fun h => by
      rw [if_neg (by omega), if_pos h] at hf
      simpa only [Bool.and_eq_true, decide_eq_true_eq, numQ] using hf
    have k6 : r.kind = 6 → r.mods.length ≤ 64 ∧ r.mods.all mdQ = true := fun h => by
      rw [if_neg (by omega), if_neg (by omega), if_pos h] at hf
      simpa only [Bool.and_eq_true, decide_eq_true_eq] using hf
    have k8 : r.kind = 8 → r.ats.length ≤ 64 ∧ r.ats.all atQ = true := fun h => by
      rw [if_neg (by omega), if_neg (by omega), if_neg (by omega), if_pos h] at hf
      simpa only [Bool.and_eq_true, decide_eq_true_eq] using hf
    have k12 : r.kind = 12 → r.above = false → r.up = [] := fun h ha => by
      rw [if_neg (by omega), if_neg (by omega), if_neg (by omega), if_neg (by omega), if_pos h, ha] at hf
      simpa using hf
    have k16 : r.kind = 16 → 0 ≤ r.which ∧ r.which ≤ 2147483647 := fun h => by
      rw [if_neg (by omega), if_neg (by omega), if_neg (by omega), if_neg (by omega), if_neg (by omega), if_pos h] at hf
      simpa only [decide_eq_true_eq, numQ] using hf
    clear hf s1 s2 s3 s4 s5 s6 s7 s8 s9 s10 s11 s12 s13 s14 s15 s16
    have a3 : 0 ≤ r.scope ∧ r.scope ≤ 2 ∧ (0 ≤ r.limit ∧ r.limit ≤ 2147483647) ∧ r.want.length ≤ 64 := by
      by_cases h : r.kind = 3
      · obtain ⟨p1, p2, p3, _, p5⟩ := k3 h
        exact ⟨p1, p2, p3, p5⟩
      · obtain ⟨p1, p2, p3⟩ := hsc h
        exact ⟨by omega, by omega, by omega, e1 p3⟩
    have a6 : r.mods.length ≤ 64 ∧ r.mods.all mdQ = true := by
      by_cases h : r.kind = 6
      · exact k6 h
      · exact e2 (hmo h)
    have a8 : r.ats.length ≤ 64 ∧ r.ats.all atQ = true := by
      by_cases h : r.kind = 8
      · exact k8 h
      · exact e3 (hat h)
    have a16 : 0 ≤ r.which ∧ r.which ≤ 2147483647 := by
      by_cases h : r.kind = 16
      · exact k16 h
      · have := hwh h; omega
    refine ⟨⟨ho, by omega, h2, a3.1, a3.2.1, a3.2.2.1.1, a3.2.2.1.2, a16.1, a16.2⟩, ⟨⟨a3.2.2.2, a6.1, a8.1⟩, a6.2, a8.2⟩, fun h => (k3 h).2.2.2.1, fun ha => ?_, hs0, hl⟩
    by_cases h : r.kind = 12
    · exact k12 h ha
    · exact hab h
end Go.Proofs.YtoockogceobfgaaGreat
namespace Go.Proofs.YtoockogceobfgaaGreat
open Go.RowKit
set_option maxRecDepth 100000

theorem Blk.setRow {w : World} {g : Nat} {t : TypeId} {cs : Array Value} (h : Blk w g t cs) (xs : Array Value) : Blk (w.setRow g xs) g t xs := setRow_heap w g cs xs t (0, 0) h
theorem Mod.setRow {F : Nat → Prop} {a b : World} (h : Mod F a b) {g : Nat} (hp : g < a.heap.size → F g) (xs : Array Value) : Mod F a (b.setRow g xs) :=
  ⟨h.os, h.tape, h.output, by rw [size_setRow]; exact h.size, fun k hk hn => (setRow_other b g k xs (by rintro rfl; exact hn (hp hk))).trans (h.block k hk hn)⟩
theorem size21 : (Tryz.prog.info? 32).map (·.size) = some 21 := by kernel_rfl
theorem Blk.twoN (w : World) (A B : Array Value) (s t : TypeId) : Blk ((w.alloc (.cells A s)).alloc (.cells B t)) w.heap.size s A ∧ Blk ((w.alloc (.cells A s)).alloc (.cells B t)) (w.heap.size + 1) t B ∧ Ext w ((w.alloc (.cells A s)).alloc (.cells B t)) := by
  refine ⟨(Blk.new w _ _).mod (F := fun _ => False) ((Mod.refl _ _).alloc _) (fun h => h), ?_, ((Mod.refl _ w).alloc _).alloc _⟩
  have h := Blk.new (w.alloc (.cells A s)) t B
  have hs : (w.alloc (.cells A s)).heap.size = w.heap.size + 1 := by simp
  rw [hs] at h
  exact h
theorem eqA0 (w : World) : (binOp .eql 30 (.agg #[.string ⟨#[]⟩, .string ⟨#[]⟩]) (.agg #[.string ⟨#[]⟩, .string ⟨#[]⟩])).run Tryz.prog w = .ok (.bool true) w := by
  rw [run_eql_struct, run_equalIn_agg w 9999 30 _ _ (by kernel_rfl) (by kernel_rfl)]
  simp only [Program.fieldsOf, Tryz.underlying30]
  simp [Op.eqFields, part, go_sem]
theorem guardA0 (w : World) (op : BinOp) (x y : Operand) (xs ys : Array Value) : (eqGuard op 30 x y (.agg xs) (.agg ys)).run Tryz.prog w = .ok () w :=
  run_eqGuard_agg w op _ x y xs ys (by kernel_rfl)

set_option maxHeartbeats 8000000 in
theorem same0_any {w : World} : Calls Tryz.prog 77 #[.agg #[.int .i64 1, .int .i64 2, .string ⟨#[]⟩, .string ⟨#[]⟩, .int .i64 0, .int .i64 0, .int .i64 0, .string ⟨#[]⟩, .string ⟨#[]⟩, .slice none 0 0, .slice none 0 0, .slice none 0 0, .slice none 0 0, .slice none 0 0, .string ⟨#[]⟩, .bool false, .bool false, .string ⟨#[]⟩, .string ⟨#[]⟩, .string ⟨#[]⟩, .int .i64 0], .agg #[.int .i64 1, .int .i64 2, .string ⟨#[]⟩, .string ⟨#[]⟩, .int .i64 0, .int .i64 0, .int .i64 0, .string ⟨#[]⟩, .string ⟨#[]⟩, .slice none 0 0, .slice none 0 0, .slice none 0 0, .slice none 0 0, .slice none 0 0, .string ⟨#[]⟩, .bool false, .bool false, .string ⟨#[]⟩, .string ⟨#[]⟩, .string ⟨#[]⟩, .int .i64 0]] w fun e w' => e = .returned (.bool true) ∧ Ext w w' := by
  obtain ⟨x2a, x2b, x2⟩ := Blk.twoN w #[.int .i64 1, .int .i64 2, .string ⟨#[]⟩, .string ⟨#[]⟩, .int .i64 0, .int .i64 0, .int .i64 0, .string ⟨#[]⟩, .string ⟨#[]⟩, .slice none 0 0, .slice none 0 0, .slice none 0 0, .slice none 0 0, .slice none 0 0, .string ⟨#[]⟩, .bool false, .bool false, .string ⟨#[]⟩, .string ⟨#[]⟩, .string ⟨#[]⟩, .int .i64 0] #[.int .i64 1, .int .i64 2, .string ⟨#[]⟩, .string ⟨#[]⟩, .int .i64 0, .int .i64 0, .int .i64 0, .string ⟨#[]⟩, .string ⟨#[]⟩, .slice none 0 0, .slice none 0 0, .slice none 0 0, .slice none 0 0, .slice none 0 0, .string ⟨#[]⟩, .bool false, .bool false, .string ⟨#[]⟩, .string ⟨#[]⟩, .string ⟨#[]⟩, .int .i64 0] 32 32
  obtain ⟨w2, hw2⟩ : ∃ x, x = (w.alloc (.cells #[.int .i64 1, .int .i64 2, .string ⟨#[]⟩, .string ⟨#[]⟩, .int .i64 0, .int .i64 0, .int .i64 0, .string ⟨#[]⟩, .string ⟨#[]⟩, .slice none 0 0, .slice none 0 0, .slice none 0 0, .slice none 0 0, .slice none 0 0, .string ⟨#[]⟩, .bool false, .bool false, .string ⟨#[]⟩, .string ⟨#[]⟩, .string ⟨#[]⟩, .int .i64 0] 32)).alloc (.cells #[.int .i64 1, .int .i64 2, .string ⟨#[]⟩, .string ⟨#[]⟩, .int .i64 0, .int .i64 0, .int .i64 0, .string ⟨#[]⟩, .string ⟨#[]⟩, .slice none 0 0, .slice none 0 0, .slice none 0 0, .slice none 0 0, .slice none 0 0, .string ⟨#[]⟩, .bool false, .bool false, .string ⟨#[]⟩, .string ⟨#[]⟩, .string ⟨#[]⟩, .int .i64 0] 32) := ⟨_, rfl⟩
  rw [← hw2] at x2a x2b x2
  obtain ⟨q, hq⟩ : ∃ q, q = w.heap.size + 1 := ⟨_, rfl⟩
  obtain ⟨p, hp⟩ : ∃ p, p = w.heap.size := ⟨_, rfl⟩
  rw [← hq] at x2b
  rw [← hp] at x2a
  have a0 : w2.cell? ⟨p, 0, none⟩ = some (.int .i64 1) := x2a.cell 0
  have a1 : w2.cell? ⟨p, 1, none⟩ = some (.int .i64 2) := x2a.cell 1
  have a2 : w2.cell? ⟨p, 2, none⟩ = some (.string ⟨#[]⟩) := x2a.cell 2
  have a3 : w2.cell? ⟨p, 3, none⟩ = some (.string ⟨#[]⟩) := x2a.cell 3
  have a4 : w2.cell? ⟨p, 4, none⟩ = some (.int .i64 0) := x2a.cell 4
  have a5 : w2.cell? ⟨p, 5, none⟩ = some (.int .i64 0) := x2a.cell 5
  have a6 : w2.cell? ⟨p, 6, none⟩ = some (.int .i64 0) := x2a.cell 6
  have a7 : w2.cell? ⟨p, 7, none⟩ = some (.string ⟨#[]⟩) := x2a.cell 7
  have a8 : w2.cell? ⟨p, 8, none⟩ = some (.string ⟨#[]⟩) := x2a.cell 8
  have a9 : w2.cell? ⟨p, 9, none⟩ = some (.slice none 0 0) := x2a.cell 9
  have a10 : w2.cell? ⟨p, 10, none⟩ = some (.slice none 0 0) := x2a.cell 10
  have a11 : w2.cell? ⟨p, 11, none⟩ = some (.slice none 0 0) := x2a.cell 11
  have a12 : w2.cell? ⟨p, 12, none⟩ = some (.slice none 0 0) := x2a.cell 12
  have a13 : w2.cell? ⟨p, 13, none⟩ = some (.slice none 0 0) := x2a.cell 13
  have a14 : w2.cell? ⟨p, 14, none⟩ = some (.string ⟨#[]⟩) := x2a.cell 14
  have a15 : w2.cell? ⟨p, 15, none⟩ = some (.bool false) := x2a.cell 15
  have a16 : w2.cell? ⟨p, 16, none⟩ = some (.bool false) := x2a.cell 16
  have a17 : w2.cell? ⟨p, 17, none⟩ = some (.string ⟨#[]⟩) := x2a.cell 17
  have a18 : w2.cell? ⟨p, 18, none⟩ = some (.string ⟨#[]⟩) := x2a.cell 18
  have a19 : w2.cell? ⟨p, 19, none⟩ = some (.string ⟨#[]⟩) := x2a.cell 19
  have a20 : w2.cell? ⟨p, 20, none⟩ = some (.int .i64 0) := x2a.cell 20
  have b0 : w2.cell? ⟨q, 0, none⟩ = some (.int .i64 1) := x2b.cell 0
  have b1 : w2.cell? ⟨q, 1, none⟩ = some (.int .i64 2) := x2b.cell 1
  have b2 : w2.cell? ⟨q, 2, none⟩ = some (.string ⟨#[]⟩) := x2b.cell 2
  have b3 : w2.cell? ⟨q, 3, none⟩ = some (.string ⟨#[]⟩) := x2b.cell 3
  have b4 : w2.cell? ⟨q, 4, none⟩ = some (.int .i64 0) := x2b.cell 4
  have b5 : w2.cell? ⟨q, 5, none⟩ = some (.int .i64 0) := x2b.cell 5
  have b6 : w2.cell? ⟨q, 6, none⟩ = some (.int .i64 0) := x2b.cell 6
  have b7 : w2.cell? ⟨q, 7, none⟩ = some (.string ⟨#[]⟩) := x2b.cell 7
  have b8 : w2.cell? ⟨q, 8, none⟩ = some (.string ⟨#[]⟩) := x2b.cell 8
  have b9 : w2.cell? ⟨q, 9, none⟩ = some (.slice none 0 0) := x2b.cell 9
  have b10 : w2.cell? ⟨q, 10, none⟩ = some (.slice none 0 0) := x2b.cell 10
  have b11 : w2.cell? ⟨q, 11, none⟩ = some (.slice none 0 0) := x2b.cell 11
  have b12 : w2.cell? ⟨q, 12, none⟩ = some (.slice none 0 0) := x2b.cell 12
  have b13 : w2.cell? ⟨q, 13, none⟩ = some (.slice none 0 0) := x2b.cell 13
  have b14 : w2.cell? ⟨q, 14, none⟩ = some (.string ⟨#[]⟩) := x2b.cell 14
  have b15 : w2.cell? ⟨q, 15, none⟩ = some (.bool false) := x2b.cell 15
  have b16 : w2.cell? ⟨q, 16, none⟩ = some (.bool false) := x2b.cell 16
  have b17 : w2.cell? ⟨q, 17, none⟩ = some (.string ⟨#[]⟩) := x2b.cell 17
  have b18 : w2.cell? ⟨q, 18, none⟩ = some (.string ⟨#[]⟩) := x2b.cell 18
  have b19 : w2.cell? ⟨q, 19, none⟩ = some (.string ⟨#[]⟩) := x2b.cell 19
  have b20 : w2.cell? ⟨q, 20, none⟩ = some (.int .i64 0) := x2b.cell 20
  have hne := eqA0
  have hgu := fun wx a b => guardA0 wx .eql a b #[.string ⟨#[]⟩, .string ⟨#[]⟩] #[.string ⟨#[]⟩, .string ⟨#[]⟩]
  replace hw2 := Lib.hid hw2
  replace hq := Lib.hid hq
  replace hp := Lib.hid hp
  go_enter Tryz.func77, Tryz.ntmps77
  go_upto_region 1 with fail
  rw [← hw2.out, ← hq.out, ← hp.out]
  clear hw2 hq hp
  go_wp2_with fail
  refine eq0_any.mono ?_
  rintro e w3 ⟨rfl, rfl⟩
  go_wp2_with fail
  refine sameAt0_any.mono ?_
  rintro e w3 ⟨rfl, rfl⟩
  go_wp2_with fail
  refine sameF0_any.mono ?_
  rintro e w3 ⟨rfl, x3⟩
  have p312 : w3.cell? ⟨p, 12, none⟩ = some (.slice none 0 0) := (x2a.mod x3 (fun h => h)).cell 12
  have q312 : w3.cell? ⟨q, 12, none⟩ = some (.slice none 0 0) := (x2b.mod x3 (fun h => h)).cell 12
  go_wp2_with fail
  refine eqM0_any.mono ?_
  rintro e w4 ⟨rfl, rfl⟩
  go_wp2_with fail
  go_ret
  exact ⟨rfl, mext_trans x2 x3⟩

set_option maxHeartbeats 8000000 in
theorem bare0_any {w : World} : Calls Tryz.prog 78 #[.agg #[.int .i64 1, .int .i64 2, .string ⟨#[]⟩, .string ⟨#[]⟩, .int .i64 0, .int .i64 0, .int .i64 0, .string ⟨#[]⟩, .string ⟨#[]⟩, .slice none 0 0, .slice none 0 0, .slice none 0 0, .slice none 0 0, .slice none 0 0, .string ⟨#[]⟩, .bool false, .bool false, .string ⟨#[]⟩, .string ⟨#[]⟩, .string ⟨#[]⟩, .int .i64 0]] w fun e w' => e = .returned (.agg #[.int .i64 1, .int .i64 2, .string ⟨#[]⟩, .string ⟨#[]⟩, .int .i64 0, .int .i64 0, .int .i64 0, .string ⟨#[]⟩, .string ⟨#[]⟩, .slice none 0 0, .slice none 0 0, .slice none 0 0, .slice none 0 0, .slice none 0 0, .string ⟨#[]⟩, .bool false, .bool false, .string ⟨#[]⟩, .string ⟨#[]⟩, .string ⟨#[]⟩, .int .i64 0]) ∧ Ext w w' := by
  obtain ⟨x2a, x2b, x2⟩ := Blk.twoN w #[.int .i64 1, .int .i64 2, .string ⟨#[]⟩, .string ⟨#[]⟩, .int .i64 0, .int .i64 0, .int .i64 0, .string ⟨#[]⟩, .string ⟨#[]⟩, .slice none 0 0, .slice none 0 0, .slice none 0 0, .slice none 0 0, .slice none 0 0, .string ⟨#[]⟩, .bool false, .bool false, .string ⟨#[]⟩, .string ⟨#[]⟩, .string ⟨#[]⟩, .int .i64 0] #[.int .i64 0, .int .i64 0, .string ⟨#[]⟩, .string ⟨#[]⟩, .int .i64 0, .int .i64 0, .int .i64 0, .string ⟨#[]⟩, .string ⟨#[]⟩, .slice none 0 0, .slice none 0 0, .slice none 0 0, .slice none 0 0, .slice none 0 0, .string ⟨#[]⟩, .bool false, .bool false, .string ⟨#[]⟩, .string ⟨#[]⟩, .string ⟨#[]⟩, .int .i64 0] 32 32
  obtain ⟨w2, hw2⟩ : ∃ x, x = (w.alloc (.cells #[.int .i64 1, .int .i64 2, .string ⟨#[]⟩, .string ⟨#[]⟩, .int .i64 0, .int .i64 0, .int .i64 0, .string ⟨#[]⟩, .string ⟨#[]⟩, .slice none 0 0, .slice none 0 0, .slice none 0 0, .slice none 0 0, .slice none 0 0, .string ⟨#[]⟩, .bool false, .bool false, .string ⟨#[]⟩, .string ⟨#[]⟩, .string ⟨#[]⟩, .int .i64 0] 32)).alloc (.cells #[.int .i64 0, .int .i64 0, .string ⟨#[]⟩, .string ⟨#[]⟩, .int .i64 0, .int .i64 0, .int .i64 0, .string ⟨#[]⟩, .string ⟨#[]⟩, .slice none 0 0, .slice none 0 0, .slice none 0 0, .slice none 0 0, .slice none 0 0, .string ⟨#[]⟩, .bool false, .bool false, .string ⟨#[]⟩, .string ⟨#[]⟩, .string ⟨#[]⟩, .int .i64 0] 32) := ⟨_, rfl⟩
  rw [← hw2] at x2a x2b x2
  obtain ⟨q, hq⟩ : ∃ q, q = w.heap.size + 1 := ⟨_, rfl⟩
  have hqw : w.heap.size ≤ q := by omega
  rw [← hq] at x2b
  have B3a : Blk (w2.alloc (.cells #[.int .i64 0, .int .i64 0, .string ⟨#[]⟩, .string ⟨#[]⟩, .int .i64 0, .int .i64 0, .int .i64 0, .string ⟨#[]⟩, .string ⟨#[]⟩, .slice none 0 0, .slice none 0 0, .slice none 0 0, .slice none 0 0, .slice none 0 0, .string ⟨#[]⟩, .bool false, .bool false, .string ⟨#[]⟩, .string ⟨#[]⟩, .string ⟨#[]⟩, .int .i64 0] 32)) w2.heap.size 32 #[.int .i64 0, .int .i64 0, .string ⟨#[]⟩, .string ⟨#[]⟩, .int .i64 0, .int .i64 0, .int .i64 0, .string ⟨#[]⟩, .string ⟨#[]⟩, .slice none 0 0, .slice none 0 0, .slice none 0 0, .slice none 0 0, .slice none 0 0, .string ⟨#[]⟩, .bool false, .bool false, .string ⟨#[]⟩, .string ⟨#[]⟩, .string ⟨#[]⟩, .int .i64 0] := Blk.new w2 _ _
  obtain ⟨w3, hw3⟩ : ∃ x, x = (w2.alloc (.cells #[.int .i64 0, .int .i64 0, .string ⟨#[]⟩, .string ⟨#[]⟩, .int .i64 0, .int .i64 0, .int .i64 0, .string ⟨#[]⟩, .string ⟨#[]⟩, .slice none 0 0, .slice none 0 0, .slice none 0 0, .slice none 0 0, .slice none 0 0, .string ⟨#[]⟩, .bool false, .bool false, .string ⟨#[]⟩, .string ⟨#[]⟩, .string ⟨#[]⟩, .int .i64 0] 32)).setRow w2.heap.size #[.int .i64 1, .int .i64 2, .string ⟨#[]⟩, .string ⟨#[]⟩, .int .i64 0, .int .i64 0, .int .i64 0, .string ⟨#[]⟩, .string ⟨#[]⟩, .slice none 0 0, .slice none 0 0, .slice none 0 0, .slice none 0 0, .slice none 0 0, .string ⟨#[]⟩, .bool false, .bool false, .string ⟨#[]⟩, .string ⟨#[]⟩, .string ⟨#[]⟩, .int .i64 0] := ⟨_, rfl⟩
  obtain ⟨g, hg⟩ : ∃ q, q = w2.heap.size := ⟨_, rfl⟩
  have x3 : Ext w2 w3 := by rw [hw3]; exact ((Mod.refl _ w2).alloc _).setRow (fun h => by omega) _
  have B3 : Blk w3 g 32 #[.int .i64 1, .int .i64 2, .string ⟨#[]⟩, .string ⟨#[]⟩, .int .i64 0, .int .i64 0, .int .i64 0, .string ⟨#[]⟩, .string ⟨#[]⟩, .slice none 0 0, .slice none 0 0, .slice none 0 0, .slice none 0 0, .slice none 0 0, .string ⟨#[]⟩, .bool false, .bool false, .string ⟨#[]⟩, .string ⟨#[]⟩, .string ⟨#[]⟩, .int .i64 0] := by rw [hw3, hg]; exact B3a.setRow #[.int .i64 1, .int .i64 2, .string ⟨#[]⟩, .string ⟨#[]⟩, .int .i64 0, .int .i64 0, .int .i64 0, .string ⟨#[]⟩, .string ⟨#[]⟩, .slice none 0 0, .slice none 0 0, .slice none 0 0, .slice none 0 0, .slice none 0 0, .string ⟨#[]⟩, .bool false, .bool false, .string ⟨#[]⟩, .string ⟨#[]⟩, .string ⟨#[]⟩, .int .i64 0]
  have BR := x2b.mod x3 (fun h => h)
  have BP : Blk w2 w.heap.size 32 #[.int .i64 1, .int .i64 2, .string ⟨#[]⟩, .string ⟨#[]⟩, .int .i64 0, .int .i64 0, .int .i64 0, .string ⟨#[]⟩, .string ⟨#[]⟩, .slice none 0 0, .slice none 0 0, .slice none 0 0, .slice none 0 0, .slice none 0 0, .string ⟨#[]⟩, .bool false, .bool false, .string ⟨#[]⟩, .string ⟨#[]⟩, .string ⟨#[]⟩, .int .i64 0] := x2a
  have p1 : w3.cell? ⟨w.heap.size, 1, none⟩ = some (.int .i64 2) := (BP.mod x3 (fun h => h)).cell 1
  have hp0 : w2.cell? ⟨w.heap.size, 0, none⟩ = some (.int .i64 1) := BP.cell 0
  have hp1 : w2.cell? ⟨w.heap.size, 1, none⟩ = some (.int .i64 2) := BP.cell 1
  replace hw2 := Lib.hid hw2
  replace hq := Lib.hid hq
  replace hw3 := Lib.hid hw3
  replace hg := Lib.hid hg
  go_enter Tryz.func78, Tryz.ntmps78
  go_upto_region 1 with fail
  rw [← hw2.out, ← hq.out]
  go_upto_region 2 with ((with_reducible show wpList _ _ _ (⟨none, .store 32 _ _, _, _, _, _⟩ :: _) _ _); refine wpList_store_row rfl 32 (.tmp 3) (.tmp 8) rfl w2.heap.size #[.int .i64 1, .int .i64 2, .string ⟨#[]⟩, .string ⟨#[]⟩, .int .i64 0, .int .i64 0, .int .i64 0, .string ⟨#[]⟩, .string ⟨#[]⟩, .slice none 0 0, .slice none 0 0, .slice none 0 0, .slice none 0 0, .slice none 0 0, .string ⟨#[]⟩, .bool false, .bool false, .string ⟨#[]⟩, .string ⟨#[]⟩, .string ⟨#[]⟩, .int .i64 0] rfl rfl _ _ B3a size21 rfl (by simp [Value.oneCell']) ?_)
  rw [← hw3.out, ← hg.out]
  clear hw2 hq hw3 hg hp0 hp1 B3a
  go_wp2_with (first
    | ((with_reducible show wpList _ _ _ (⟨some 13, _, _, _, _, _⟩ :: _) _ _); refine wpList_load_row rfl 32 (.tmp 3) rfl g rfl _ _ _ _ B3 Tryz.underlying32 rfl size21 ?_)
    | ((with_reducible show wpList _ _ _ (⟨none, .store 32 _ _, _, _, _, _⟩ :: _) _ _); refine wpList_store_row rfl 32 (.tmp 2) (.tmp 13) rfl q #[.int .i64 1, .int .i64 2, .string ⟨#[]⟩, .string ⟨#[]⟩, .int .i64 0, .int .i64 0, .int .i64 0, .string ⟨#[]⟩, .string ⟨#[]⟩, .slice none 0 0, .slice none 0 0, .slice none 0 0, .slice none 0 0, .slice none 0 0, .string ⟨#[]⟩, .bool false, .bool false, .string ⟨#[]⟩, .string ⟨#[]⟩, .string ⟨#[]⟩, .int .i64 0] rfl rfl _ _ BR size21 rfl (by simp [Value.oneCell']) ?_))
  refine bodyPost_ret (results_cell_row Tryz.results78 _ _ _ _ _ _ _ rfl (BR.setRow #[.int .i64 1, .int .i64 2, .string ⟨#[]⟩, .string ⟨#[]⟩, .int .i64 0, .int .i64 0, .int .i64 0, .string ⟨#[]⟩, .string ⟨#[]⟩, .slice none 0 0, .slice none 0 0, .slice none 0 0, .slice none 0 0, .slice none 0 0, .string ⟨#[]⟩, .bool false, .bool false, .string ⟨#[]⟩, .string ⟨#[]⟩, .string ⟨#[]⟩, .int .i64 0]) Tryz.underlying32 rfl (by exact size21)) rfl ?_
  exact ⟨rfl, (mext_trans x2 x3).setRow (fun h => by omega) _⟩
end Go.Proofs.YtoockogceobfgaaGreat
