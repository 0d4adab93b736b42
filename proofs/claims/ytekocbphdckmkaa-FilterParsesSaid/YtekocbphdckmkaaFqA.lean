/- filter: two filters compared, the document's way. -/
import Derived.Test.YtekocbphdckmkaaFpP
import Derived.Test.YtekocbphdckmkaaFlG
namespace Go.Proofs.Ytekocbphdckmkaa
open Go.RowKit
set_option maxRecDepth 100000

set_option maxHeartbeats 8000000 in
theorem rtexts_any {w : World} {S S' : Nat → Prop} {v v' : Value} {L M : List (List UInt8)} (h : Ss w S v L) (h' : Ss w S' v' M) :
    Calls Try.prog 23 #[v, v'] w fun e w' => e = .returned (.bool (decide (L = M))) ∧ Ext w w' := by
  obtain ⟨A, c, rfl, h1, h2, h3, h4⟩ := h.open_
  obtain ⟨B, d, rfl, j1, j2, j3, j4⟩ := h'.open_
  by_cases hl : L.length = M.length
  case neg =>
    have hb : ((L.length : Int) != (M.length : Int)) = true := by rw [bne_iff_ne]; omega
    go_enter Try.func23, Try.ntmps23
    go_wp2_with fail
    go_ret
    exact ⟨by rw [dfalse (fun h => hl (by rw [h]))]; rfl, Mod.refl _ _⟩
  have hb : ((L.length : Int) != (M.length : Int)) = false := by rw [bne_eq_false_iff_eq]; omega
  replace hl := Lib.hid hl
  go_enter Try.func23, Try.ntmps23
  go_wp2_with fail
  go_loopw [5] (fun i wr => ∃ k : Nat, k ≤ L.length ∧ i = .int .i64 k ∧ Hid (L.take k = M.take k) ∧ Ext w wr) (fun i _ => L.length - (intOf i).toNat)
  case atStart => exact ⟨0, Nat.zero_le _, rfl, Lib.hid (by simp), Mod.refl _ _⟩
  case round =>
    obtain ⟨k, hk, rfl, hs, q3⟩ := hrel
    by_cases hlt : k < L.length
    case neg =>
      have hbl : decide ((k : Int) < (L.length : Int)) = false := dfalse (by omega)
      have hres : L = M := by
        have := hs.out
        rwa [List.take_of_length_le (by omega), List.take_of_length_le (by have := hl.out; omega)] at this
      replace hres := Lib.hid hres
      go_wp2_with fail
      go_ret
      exact ⟨by rw [dtrue hres.out]; rfl, q3⟩
    have hbl : decide ((k : Int) < (L.length : Int)) = true := dtrue (by omega)
    have hlm : k < M.length := by have := hl.out; omega
    obtain ⟨ad, hA, hS, c0⟩ := (Cells.mod h4 q3 (fun _ _ _ h => h)).at_ hlt
    subst hA
    obtain ⟨bd, hB, hT, d0⟩ := (Cells.mod j4 q3 (fun _ _ _ h => h)).at_ hlm
    subst hB
    have hsn : L.take (k + 1) = M.take (k + 1) ↔ L[k] = M[k] := by
      rw [List.take_succ_eq_append_getElem hlt, List.take_succ_eq_append_getElem hlm, hs.out]
      exact ⟨fun h => List.singleton_inj.1 (List.append_cancel_left h), fun h => by rw [h]⟩
    have hno : L[k] ≠ M[k] → L ≠ M := fun hn he => hn (by subst he; rfl)
    have hi0 : (0 : Int) ≤ (k : Int) := by omega
    have hi1 : (k : Int) < (L.length : Int) := by omega
    have hi2 : (k : Int) < (M.length : Int) := by omega
    generalize L[k] = x at *
    generalize M[k] = y at *
    have hdw : ∀ m, Ext w (wr.drewN m) := fun m => q3.drewN m
    cases hxy : (x == y)
    case true =>
      have hs2 := Lib.hid (hsn.2 (by rw [beq_iff_eq] at hxy; exact hxy))
      clear hsn hno
      go_wp2_with fail
      go_quiet (fail)
      go_wp2_with fail
      exact ⟨⟨k + 1, by omega, by go_num, hs2, hdw _⟩, by simp [intOf] <;> omega⟩
    have hno2 := Lib.hid (hno (by rw [beq_eq_false_iff_ne] at hxy; exact hxy))
    clear hsn hno
    go_wp2_with fail
    go_quiet (fail)
    go_wp2_with fail
    go_ret
    exact ⟨by rw [dfalse hno2.out]; rfl, hdw _⟩

/-- Are two filters one? -/
def eqN : Nat → Fi → Fi → Bool
  | 0, _, _ => false
  | n + 1, F, G => F.kind == G.kind && (F.typ == G.typ && (F.val == G.val && (decide (F.subs = G.subs) && (decide (F.kids.length = G.kids.length) && (F.kids.zip G.kids).all (fun x => eqN n x.1 x.2)))))
theorem eqN_succ (n : Nat) (F G : Fi) : eqN (n + 1) F G = (F.kind == G.kind && (F.typ == G.typ && (F.val == G.val && (decide (F.subs = G.subs) && (decide (F.kids.length = G.kids.length) && (F.kids.zip G.kids).all (fun x => eqN n x.1 x.2)))))) := rfl
theorem zip_next {n : Nat} {K L : List Fi} {k : Nat} (h1 : k < K.length) (h2 : k < L.length) : ((K.take (k + 1)).zip (L.take (k + 1))).all (fun x => eqN n x.1 x.2) = (((K.take k).zip (L.take k)).all (fun x => eqN n x.1 x.2) && eqN n K[k] L[k]) := by
  rw [List.take_succ_eq_append_getElem h1, List.take_succ_eq_append_getElem h2, List.zip_append (by rw [List.length_take, List.length_take]; omega), List.all_append]
  simp
theorem zip_no {n : Nat} {K L : List Fi} {k : Nat} (h1 : k < K.length) (h2 : k < L.length) (h : eqN n K[k] L[k] = false) : (K.zip L).all (fun x => eqN n x.1 x.2) = false := by
  rw [List.all_eq_false]
  refine ⟨(K[k], L[k]), ?_, by simp [h]⟩
  have : (K.zip L)[k]? = some (K[k], L[k]) := by rw [List.getElem?_zip_eq_some]; exact ⟨List.getElem?_eq_getElem h1, List.getElem?_eq_getElem h2⟩
  exact List.mem_of_getElem? this
theorem eqN_refl : ∀ {n : Nat} {w : World} {F : Fi} {vs vk : Value}, FilN n w F vs vk → eqN n F F = true
  | 0, _, _, _, _, h => h.elim
  | n + 1, w, F, vs, vk, ⟨_, _, C, _, hC, hk⟩ => by
    rw [eqN_succ, beq_self_eq_true, beq_self_eq_true, beq_self_eq_true, decide_eq_true rfl, decide_eq_true rfl]
    simp only [Bool.true_and, List.all_eq_true]
    rintro ⟨a, b⟩ hab
    have h1 : ∀ (L : List Fi) (a b : Fi), (a, b) ∈ L.zip L → a = b ∧ a ∈ L := by
      intro L
      induction L with
      | nil => intro a b h; simp at h
      | cons c L ih =>
        intro a b h
        rw [List.zip_cons_cons, List.mem_cons] at h
        rcases h with h | h
        · cases h; exact ⟨rfl, List.mem_cons_self⟩
        · exact ⟨(ih a b h).1, List.mem_cons_of_mem _ (ih a b h).2⟩
    obtain ⟨rfl, ha⟩ := h1 _ _ _ hab
    rw [← hC] at ha
    obtain ⟨x, hx, rfl⟩ := List.mem_map.1 ha
    exact eqN_refl (hk x hx)
/-- What Same says. -/
def SameIH (n : Nat) : Prop := ∀ {w : World} {F G : Fi} {vs vk us uk : Value}, FilN n w F vs vk → FilN n w G us uk →
  Calls Try.prog 10 #[filV F vs vk, filV G us uk] w fun e w' => e = .returned (.bool (eqN n F G)) ∧ Ext w w'
set_option maxHeartbeats 32000000 in
theorem rsame_step {n : Nat} (ih : SameIH n) : SameIH (n + 1) := by
  intro w F G vs vk us uk h h'
  obtain ⟨hFB, ⟨As, cs, es⟩, hS, A, ca, ek, hop⟩ := h.open_
  obtain ⟨hGB, ⟨Bs', ds, fs⟩, hT, B, cb, fk, hoq⟩ := h'.open_
  have hkl := hFB.kl
  have hkl2 := hGB.kl
  have hkd := hFB.kd
  have hkd2 := hGB.kd
  obtain ⟨R, hR⟩ : ∃ R, R = eqN (n + 1) F G := ⟨_, rfl⟩
  rw [← hR]
  rw [eqN_succ] at hR
  show Calls Try.prog 10 #[.agg #[.int .i64 F.kind, sv F.typ, sv F.val, vs, vk], .agg #[.int .i64 G.kind, sv G.typ, sv G.val, us, uk]] w _
  obtain ⟨K, hKs⟩ : ∃ T, T = F.kids := ⟨_, rfl⟩
  obtain ⟨L, hLs⟩ : ∃ T, T = G.kids := ⟨_, rfl⟩
  rw [← hKs] at hkl ek hop hR
  rw [← hLs] at hkl2 fk hoq hR
  obtain ⟨X, hXs⟩ : ∃ T, T = F.subs := ⟨_, rfl⟩
  obtain ⟨Y, hYs⟩ : ∃ T, T = G.subs := ⟨_, rfl⟩
  rw [← hXs] at es hS hR
  rw [← hYs] at fs hT hR
  generalize F.kind = kd at *
  generalize F.typ = T at *
  generalize F.val = V at *
  generalize G.kind = kd' at *
  generalize G.typ = T' at *
  generalize G.val = V' at *
  obtain ⟨m, hm⟩ : ∃ m, m = X.length := ⟨_, rfl⟩
  obtain ⟨m', hm'⟩ : ∃ m, m = Y.length := ⟨_, rfl⟩
  obtain ⟨q, hq⟩ : ∃ m, m = K.length := ⟨_, rfl⟩
  obtain ⟨q', hq'⟩ : ∃ m, m = L.length := ⟨_, rfl⟩
  rw [← hm] at es
  rw [← hm'] at fs
  rw [← hq] at ek hkl hR
  rw [← hq'] at fk hkl2 hR
  subst es ek fs fk
  obtain ⟨w1, hw1⟩ : ∃ x, x = (w.alloc (.cells #[.int .i64 kd, sv T, sv V, .slice As m cs, .slice A q ca] 25)).alloc (.cells #[.int .i64 kd', sv T', sv V', .slice Bs' m' ds, .slice B q' cb] 25) := ⟨_, rfl⟩
  obtain ⟨p, hp⟩ : ∃ p, p = w.heap.size := ⟨_, rfl⟩
  have x1 : Ext w w1 := by rw [hw1]; exact ((Mod.refl _ w).alloc _).alloc _
  have BP : Blk w1 p 25 #[.int .i64 kd, sv T, sv V, .slice As m cs, .slice A q ca] := by rw [hw1, hp]; exact (Blk.new w _ _).alloc _
  have BQ : Blk w1 (p + 1) 25 #[.int .i64 kd', sv T', sv V', .slice Bs' m' ds, .slice B q' cb] := by
    rw [hw1, hp]
    have := Blk.new (w.alloc (.cells #[.int .i64 kd, sv T, sv V, .slice As m cs, .slice A q ca] 25)) 25 #[.int .i64 kd', sv T', sv V', .slice Bs' m' ds, .slice B q' cb]
    simpa using this
  have hcc : ∀ {wx : World}, Ext w1 wx → wx.cell? ⟨p, 4, none⟩ = some (.slice A q ca) ∧ wx.cell? ⟨p + 1, 4, none⟩ = some (.slice B q' cb) := fun x => ⟨(BP.mod x (fun h => h)).cell 4, (BQ.mod x (fun h => h)).cell 4⟩
  obtain ⟨-, p0, p1, p2, p3, p4⟩ := BP.five
  obtain ⟨-, o0, o1, o2, o3, o4⟩ := BQ.five
  have htx := rtexts_any (Sl.ext hS x1) (Sl.ext hT x1)
  replace hm := Lib.hid hm
  replace hm' := Lib.hid hm'
  replace hq := Lib.hid hq
  replace hq' := Lib.hid hq'
  replace hw1 := Lib.hid hw1
  replace hp := Lib.hid hp
  replace hR := Lib.hid hR
  replace htx := Lib.hid htx
  clear BP BQ hS hT h h' hFB hGB
  go_enter Try.func10, Try.ntmps10
  go_upto_region 1 with fail
  rw [← hw1.out, ← hp.out]
  clear hw1 hp
  cases hk : (kd == kd')
  · have hb : (kd != kd') = true := by rw [bne, hk]; rfl
    have hr : Hid (R = false) := Lib.hid (by rw [hR.out, hk]; rfl)
    clear hR htx hop hoq
    go_wp2_with fail
    go_ret
    exact ⟨by rw [hr.out]; rfl, x1⟩
  have hb : (kd != kd') = false := by rw [bne, hk]; rfl
  cases hT : (T == T')
  · have hr : Hid (R = false) := Lib.hid (by rw [hR.out, hk, hT]; rfl)
    clear hR htx hop hoq
    go_wp2_with fail
    go_ret
    exact ⟨by rw [hr.out]; rfl, x1⟩
  cases hV : (V == V')
  · have hr : Hid (R = false) := Lib.hid (by rw [hR.out, hk, hT, hV]; rfl)
    clear hR htx hop hoq
    go_wp2_with fail
    go_ret
    exact ⟨by rw [hr.out]; rfl, x1⟩
  have hR2 : R = (decide (X = Y) && (decide (q = q') && (K.zip L).all fun x => eqN n x.fst x.snd)) := by rw [hR.out, hk, hT, hV]; rfl
  replace hR2 := Lib.hid hR2
  clear hR
  cases hx : decide (X = Y)
  · have hr : Hid (R = false) := Lib.hid (by rw [hR2.out, hx]; rfl)
    rw [hx] at htx
    clear hR2 hop hoq hx
    go_wp2_with fail
    refine htx.out.mono ?_
    rintro e w2 ⟨rfl, x2⟩
    go_wp2_with fail
    go_ret
    exact ⟨by rw [hr.out]; rfl, ext_trans x1 x2⟩
  rw [hx] at htx
  have hR3 : R = (decide (q = q') && (K.zip L).all fun x => eqN n x.fst x.snd) := by rw [hR2.out, hx]; rfl
  replace hR3 := Lib.hid hR3
  clear hR2 hx
  by_cases hqq : q = q'
  rotate_left
  · have hr : Hid (R = false) := Lib.hid (by rw [hR3.out, dfalse hqq]; rfl)
    have hqb : ((q : Int) != (q' : Int)) = true := bne_iff_ne.2 (by omega)
    clear hR3 hop hoq
    go_wp2_with fail
    refine htx.out.mono ?_
    rintro e w2 ⟨rfl, x2⟩
    obtain ⟨g4, g5⟩ := hcc x2
    clear p0 p1 p2 p3 p4 o0 o1 o2 o3 o4
    go_wp2_with fail
    go_ret
    exact ⟨by rw [hr.out]; rfl, ext_trans x1 x2⟩
  have hr : R = (K.zip L).all fun x => eqN n x.fst x.snd := by rw [hR3.out, dtrue hqq]; rfl
  have hqb : ((q : Int) != (q' : Int)) = false := by rw [hqq]; exact bne_self_eq_false _
  have hql : q' = q := hqq.symm
  replace hr := Lib.hid hr
  replace hql := Lib.hid hql
  clear hR3 hqq
  go_wp2_with fail
  refine htx.out.mono ?_
  rintro e w2 ⟨rfl, x2⟩
  obtain ⟨g4, g5⟩ := hcc x2
  clear p0 p1 p2 p3 p4 o0 o1 o2 o3 o4 htx hk hT hV hb
  go_wp2_with fail
  clear g4 g5 hqb
  go_loopw [5] (fun i wr => ∃ k : Nat, k ≤ q ∧ i = .int .i64 k ∧ Hid (((K.take k).zip (L.take k)).all (fun x => eqN n x.1 x.2) = true) ∧ Ext w1 wr) (fun i _ => q - (intOf i).toNat)
  case atStart => exact ⟨0, Nat.zero_le _, rfl, Lib.hid (by simp), x2⟩
  case round =>
    clear x2
    obtain ⟨k, hkq, rfl, hal, x3⟩ := hrel
    obtain ⟨g4, g5⟩ := hcc x3
    by_cases hlt : k < q
    case neg =>
      have hbl : decide ((k : Int) < (q : Int)) = false := dfalse (by omega)
      have hr2 : Hid (R = true) := Lib.hid (by
        have h1 := hal.out
        rw [List.take_of_length_le (by have := hq.out; omega), List.take_of_length_le (by have := hq'.out; have := hql.out; omega)] at h1
        rw [hr.out, h1])
      clear hal hr hop hoq
      go_wp2_with fail
      go_ret
      exact ⟨by rw [hr2.out]; rfl, ext_trans x1 x3⟩
    have hbl : decide ((k : Int) < (q : Int)) = true := dtrue (by omega)
    have hi0 : (0 : Int) ≤ (k : Int) := by omega
    have hi1 : (k : Int) < (q : Int) := by omega
    have hi2 : (k : Int) < (q' : Int) := by have := hql.out; omega
    have hkK : k < K.length := by have := hq.out; omega
    have hkL : k < L.length := by have := hq'.out; have := hql.out; omega
    obtain ⟨ag, ys, yk, e2, a0, a1, a2, a3, a4, hF⟩ := hop k hkK
    obtain ⟨bg, zs, zk, e3, b0, b1, b2, b3, b4, hG⟩ := hoq k hkL
    subst e2 e3
    have y3 := ext_trans x1 x3
    have hzn := zip_next (n := n) hkK hkL
    have hzo := zip_no (n := n) hkK hkL
    have hcall := fun {wx : World} (x : Ext w wx) => ih (hF.ext x) (hG.ext x)
    have hss := hF.shape
    have hsz := hG.shape
    generalize K[k] = xF at *
    generalize L[k] = xG at *
    obtain ⟨⟨A3, m3, c3, rfl⟩, A4, m4, c4, rfl⟩ := hss
    obtain ⟨⟨A5, m5, c5, rfl⟩, A6, m6, c6, rfl⟩ := hsz
    have hall : ∀ {wx : World}, Ext w1 wx → wx.cell? ⟨p, 4, none⟩ = some (.slice (some ag) q ca) ∧ wx.cell? ⟨p + 1, 4, none⟩ = some (.slice (some bg) q' cb) ∧ wx.cell? (ag.add (k * 5)) = some (.int .i64 xF.kind) ∧ wx.cell? ⟨(ag.add (k * 5)).block, (ag.add (k * 5)).off + 1, none⟩ = some (sv xF.typ) ∧ wx.cell? ⟨(ag.add (k * 5)).block, (ag.add (k * 5)).off + 2, none⟩ = some (sv xF.val) ∧ wx.cell? ⟨(ag.add (k * 5)).block, (ag.add (k * 5)).off + 3, none⟩ = some (.slice A3 m3 c3) ∧ wx.cell? ⟨(ag.add (k * 5)).block, (ag.add (k * 5)).off + 4, none⟩ = some (.slice A4 m4 c4) ∧ wx.cell? (bg.add (k * 5)) = some (.int .i64 xG.kind) ∧ wx.cell? ⟨(bg.add (k * 5)).block, (bg.add (k * 5)).off + 1, none⟩ = some (sv xG.typ) ∧ wx.cell? ⟨(bg.add (k * 5)).block, (bg.add (k * 5)).off + 2, none⟩ = some (sv xG.val) ∧ wx.cell? ⟨(bg.add (k * 5)).block, (bg.add (k * 5)).off + 3, none⟩ = some (.slice A5 m5 c5) ∧ wx.cell? ⟨(bg.add (k * 5)).block, (bg.add (k * 5)).off + 4, none⟩ = some (.slice A6 m6 c6) := fun x => ⟨(hcc x).1, (hcc x).2, ext_cell (ext_trans x1 x) a0, ext_cell (ext_trans x1 x) a1, ext_cell (ext_trans x1 x) a2, ext_cell (ext_trans x1 x) a3, ext_cell (ext_trans x1 x) a4, ext_cell (ext_trans x1 x) b0, ext_cell (ext_trans x1 x) b1, ext_cell (ext_trans x1 x) b2, ext_cell (ext_trans x1 x) b3, ext_cell (ext_trans x1 x) b4⟩
    clear a0 a1 a2 a3 a4 b0 b1 b2 b3 b4 hop hoq hF hG hkK hkL g4 g5
    obtain ⟨g4, g5, -⟩ := hall x3
    go_upto_region 6 with fail
    have z0 : Ext w1 wr.drew := x3.drew
    cases hqv : eqN n xF xG
    · have hr2 : Hid (R = false) := Lib.hid (by rw [hr.out, hzo hqv])
      rw [hqv] at hcall
      replace hcall := fun {wx : World} (x : Ext w wx) => Lib.hid (hcall x)
      clear hzn hzo hal hr hqv
      go_region_held3 (fun wx => wx.cell? ⟨p, 4, none⟩ = some (.slice (some ag) q ca) ∧ wx.cell? ⟨p + 1, 4, none⟩ = some (.slice (some bg) q' cb) ∧ wx.cell? (ag.add (k * 5)) = some (.int .i64 xF.kind) ∧ wx.cell? ⟨(ag.add (k * 5)).block, (ag.add (k * 5)).off + 1, none⟩ = some (sv xF.typ) ∧ wx.cell? ⟨(ag.add (k * 5)).block, (ag.add (k * 5)).off + 2, none⟩ = some (sv xF.val) ∧ wx.cell? ⟨(ag.add (k * 5)).block, (ag.add (k * 5)).off + 3, none⟩ = some (.slice A3 m3 c3) ∧ wx.cell? ⟨(ag.add (k * 5)).block, (ag.add (k * 5)).off + 4, none⟩ = some (.slice A4 m4 c4) ∧ wx.cell? (bg.add (k * 5)) = some (.int .i64 xG.kind) ∧ wx.cell? ⟨(bg.add (k * 5)).block, (bg.add (k * 5)).off + 1, none⟩ = some (sv xG.typ) ∧ wx.cell? ⟨(bg.add (k * 5)).block, (bg.add (k * 5)).off + 2, none⟩ = some (sv xG.val) ∧ wx.cell? ⟨(bg.add (k * 5)).block, (bg.add (k * 5)).off + 3, none⟩ = some (.slice A5 m5 c5) ∧ wx.cell? ⟨(bg.add (k * 5)).block, (bg.add (k * 5)).off + 4, none⟩ = some (.slice A6 m6 c6)) (first | exact hall z0 | exact hall z1) (first
        | (go_at_call 10; (with_reducible refine (hcall (ext_trans x1 z0)).out.mono ?_); rintro e7 w7 ⟨rfl, x7⟩; have z1 := ext_trans z0 x7))
      go_wp2_with fail
      go_ret
      exact ⟨by rw [hr2.out]; rfl, ext_trans x1 z1⟩
    · have hal2 := Lib.hid (show ((K.take (k + 1)).zip (L.take (k + 1))).all (fun x => eqN n x.1 x.2) = true by rw [hzn, hal.out, hqv]; rfl)
      rw [hqv] at hcall
      replace hcall := fun {wx : World} (x : Ext w wx) => Lib.hid (hcall x)
      clear hzn hzo hal hr hqv
      go_region_held3 (fun wx => wx.cell? ⟨p, 4, none⟩ = some (.slice (some ag) q ca) ∧ wx.cell? ⟨p + 1, 4, none⟩ = some (.slice (some bg) q' cb) ∧ wx.cell? (ag.add (k * 5)) = some (.int .i64 xF.kind) ∧ wx.cell? ⟨(ag.add (k * 5)).block, (ag.add (k * 5)).off + 1, none⟩ = some (sv xF.typ) ∧ wx.cell? ⟨(ag.add (k * 5)).block, (ag.add (k * 5)).off + 2, none⟩ = some (sv xF.val) ∧ wx.cell? ⟨(ag.add (k * 5)).block, (ag.add (k * 5)).off + 3, none⟩ = some (.slice A3 m3 c3) ∧ wx.cell? ⟨(ag.add (k * 5)).block, (ag.add (k * 5)).off + 4, none⟩ = some (.slice A4 m4 c4) ∧ wx.cell? (bg.add (k * 5)) = some (.int .i64 xG.kind) ∧ wx.cell? ⟨(bg.add (k * 5)).block, (bg.add (k * 5)).off + 1, none⟩ = some (sv xG.typ) ∧ wx.cell? ⟨(bg.add (k * 5)).block, (bg.add (k * 5)).off + 2, none⟩ = some (sv xG.val) ∧ wx.cell? ⟨(bg.add (k * 5)).block, (bg.add (k * 5)).off + 3, none⟩ = some (.slice A5 m5 c5) ∧ wx.cell? ⟨(bg.add (k * 5)).block, (bg.add (k * 5)).off + 4, none⟩ = some (.slice A6 m6 c6)) (first | exact hall z0 | exact hall z1) (first
        | (go_at_call 10; (with_reducible refine (hcall (ext_trans x1 z0)).out.mono ?_); rintro e7 w7 ⟨rfl, x7⟩; have z1 := ext_trans z0 x7))
      go_wp2_with fail
      exact ⟨⟨k + 1, by omega, by go_num, hal2, z1⟩, by simp [intOf] <;> omega⟩
theorem rsame_any : ∀ n, SameIH n
  | 0 => fun h => h.elim
  | n + 1 => rsame_step (rsame_any n)
end Go.Proofs.Ytekocbphdckmkaa
