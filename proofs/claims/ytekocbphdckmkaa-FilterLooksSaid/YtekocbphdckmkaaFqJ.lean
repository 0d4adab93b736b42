/- filter: the program's Same. -/
import Derived.Test.YtekocbphdckmkaaFqI
namespace Go.Proofs.Ytekocbphdckmkaa
open Go.RowKit
set_option maxRecDepth 100000

set_option maxHeartbeats 8000000 in
theorem eqS16_any {w : World} {S S' : Nat → Prop} {v v' : Value} {L M : List (List UInt8)} (h : Ss w S v L) (h' : Ss w S' v' M) :
    Calls Try.prog 28 #[v, v'] w fun e w' => e = .returned (.bool (decide (L = M))) ∧ Ext w w' := by
  obtain ⟨A, c, rfl, h1, h2, h3, h4⟩ := h.open_
  obtain ⟨B, d, rfl, j1, j2, j3, j4⟩ := h'.open_
  by_cases hl : L.length = M.length
  case neg =>
    have hb : ((L.length : Int) != (M.length : Int)) = true := by rw [bne_iff_ne]; omega
    go_enter Try.func28, Try.ntmps28
    go_wp2_with fail
    go_ret
    exact ⟨by rw [dfalse (fun h => hl (by rw [h]))]; rfl, Mod.refl _ _⟩
  have hb : ((L.length : Int) != (M.length : Int)) = false := by rw [bne_eq_false_iff_eq]; omega
  replace hl := Lib.hid hl
  go_enter Try.func28, Try.ntmps28
  go_wp2_with fail
  go_loopw [13] (fun i wr => ∃ k : Nat, k ≤ L.length ∧ i = .int .i64 k ∧ Hid (L.take k = M.take k) ∧ Ext w wr) (fun i _ => L.length - (intOf i).toNat)
  case atStart => exact ⟨0, Nat.zero_le _, rfl, Lib.hid (by simp), Mod.refl _ _⟩
  case round =>
    obtain ⟨k, hk, rfl, hs, q3⟩ := hrel
    by_cases hlt : k < L.length
    case neg =>
      have hbl : decide ((k : Int) < (L.length : Int)) = false := dfalse (by omega)
      have hres : L = M := by
        have := hs.out
        rwa [List.take_of_length_le (by omega), List.take_of_length_le (by have := hl.out; omega)] at this
      replace hres := Lib.hid hres
      go_wp2_with fail
      go_ret
      exact ⟨by rw [dtrue hres.out]; rfl, q3⟩
    have hbl : decide ((k : Int) < (L.length : Int)) = true := dtrue (by omega)
    have hlm : k < M.length := by have := hl.out; omega
    obtain ⟨ad, hA, hS, c0⟩ := (Cells.mod h4 q3 (fun _ _ _ h => h)).at_ hlt
    subst hA
    obtain ⟨bd, hB, hT, d0⟩ := (Cells.mod j4 q3 (fun _ _ _ h => h)).at_ hlm
    subst hB
    have hsn : L.take (k + 1) = M.take (k + 1) ↔ L[k] = M[k] := by
      rw [List.take_succ_eq_append_getElem hlt, List.take_succ_eq_append_getElem hlm, hs.out]
      exact ⟨fun h => List.singleton_inj.1 (List.append_cancel_left h), fun h => by rw [h]⟩
    have hno : L[k] ≠ M[k] → L ≠ M := fun hn he => hn (by subst he; rfl)
    have hi0 : (0 : Int) ≤ (k : Int) := by omega
    have hi1 : (k : Int) < (L.length : Int) := by omega
    have hi2 : (k : Int) < (M.length : Int) := by omega
    generalize L[k] = x at *
    generalize M[k] = y at *
    have hdw : ∀ m, Ext w (wr.drewN m) := fun m => q3.drewN m
    cases hxy : (x == y)
    case true =>
      have hxn : (x != y) = false := by rw [bne, hxy]; rfl
      have hs2 := Lib.hid (hsn.2 (by rw [beq_iff_eq] at hxy; exact hxy))
      clear hsn hno
      go_wp2_with fail
      go_quiet (fail)
      go_wp2_with fail
      exact ⟨⟨k + 1, by omega, by go_num, hs2, hdw _⟩, by simp [intOf] <;> omega⟩
    have hxn : (x != y) = true := by rw [bne, hxy]; rfl
    have hno2 := Lib.hid (hno (by rw [beq_eq_false_iff_ne] at hxy; exact hxy))
    clear hsn hno
    go_wp2_with fail
    go_quiet (fail)
    go_wp2_with fail
    go_ret
    exact ⟨by rw [dfalse hno2.out]; rfl, hdw _⟩


/-- What the program's Same says. -/
def SamePI (n : Nat) : Prop := ∀ {w : World} {F G : Fi} {vs vk us uk : Value}, FilN n w F vs vk → FilN n w G us uk →
  Calls Try.prog 19 #[filV F vs vk, filV G us uk] w fun e w' => e = .returned (.bool (eqN n F G)) ∧ Ext w w'
set_option maxHeartbeats 32000000 in
theorem eqK_any {n : Nat} (ih : SamePI n) {w : World} {F G : Fi} {vs vk us uk : Value} (h : FilN (n + 1) w F vs vk) (h' : FilN (n + 1) w G us uk) :
    Calls Try.prog 29 #[vk, uk, .func (.func 19) #[] #[]] w fun e w' => e = .returned (.bool (decide (F.kids.length = G.kids.length) && (F.kids.zip G.kids).all (fun x => eqN n x.1 x.2))) ∧ Ext w w' := by
  obtain ⟨hFB, -, -, A, ca, ek, hop⟩ := h.open_
  obtain ⟨hGB, -, -, B, cb, fk, hoq⟩ := h'.open_
  have hkl := hFB.kl
  have hkl2 := hGB.kl
  obtain ⟨K, hKs⟩ : ∃ T, T = F.kids := ⟨_, rfl⟩
  obtain ⟨L, hLs⟩ : ∃ T, T = G.kids := ⟨_, rfl⟩
  rw [← hKs, ← hLs]
  rw [← hKs] at hkl ek hop
  rw [← hLs] at hkl2 fk hoq
  obtain ⟨R, hR⟩ : ∃ R, R = (decide (K.length = L.length) && (K.zip L).all fun x => eqN n x.fst x.snd) := ⟨_, rfl⟩
  rw [← hR]
  obtain ⟨q, hq⟩ : ∃ m, m = K.length := ⟨_, rfl⟩
  obtain ⟨q', hq'⟩ : ∃ m, m = L.length := ⟨_, rfl⟩
  rw [← hq] at ek hkl hR
  rw [← hq'] at fk hkl2 hR
  subst ek fk
  replace hq := Lib.hid hq
  replace hq' := Lib.hid hq'
  clear h h' hFB hGB hKs hLs
  by_cases hqq : q = q'
  rotate_left
  · have hr : Hid (R = false) := Lib.hid (by rw [hR, dfalse hqq]; rfl)
    have hqb : ((q : Int) != (q' : Int)) = true := bne_iff_ne.2 (by omega)
    clear hR hop hoq hqq
    go_enter Try.func29, Try.ntmps29
    go_wp2_with fail
    go_ret
    exact ⟨by rw [hr.out]; rfl, Mod.refl _ _⟩
  have hr : R = (K.zip L).all fun x => eqN n x.fst x.snd := by rw [hR, dtrue hqq]; rfl
  replace hr := Lib.hid hr
  subst hqq
  have hqb : ((q : Int) != (q : Int)) = false := bne_self_eq_false _
  clear hR
  go_enter Try.func29, Try.ntmps29
  go_wp2_with fail
  go_loopw [17] (fun i wr => ∃ k : Nat, k ≤ q ∧ i = .int .i64 k ∧ Hid (((K.take k).zip (L.take k)).all (fun x => eqN n x.1 x.2) = true) ∧ Ext w wr) (fun i _ => q - (intOf i).toNat)
  case atStart => exact ⟨0, Nat.zero_le _, rfl, Lib.hid (by simp), Mod.refl _ _⟩
  case round =>
    clear hqb
    obtain ⟨k, hkq, rfl, hal, hx⟩ := hrel
    by_cases hlt : k < q
    case neg =>
      have hbl : decide ((k : Int) < (q : Int)) = false := dfalse (by omega)
      have hbn : decide (k < q) = false := dfalse (by omega)
      have hr2 : Hid (R = true) := Lib.hid (by
        have h1 := hal.out
        rw [List.take_of_length_le (by have := hq.out; omega), List.take_of_length_le (by have := hq'.out; omega)] at h1
        rw [hr.out, h1])
      clear hal hr hop hoq
      go_wp2_with fail
      go_ret
      exact ⟨by rw [hr2.out]; rfl, hx⟩
    have hbl : decide ((k : Int) < (q : Int)) = true := dtrue (by omega)
    have hbn : decide (k < q) = true := dtrue (by omega)
    have hi0 : (0 : Int) ≤ (k : Int) := by omega
    have hi1 : (k : Int) < (q : Int) := by omega
    have hkK : k < K.length := by have := hq.out; omega
    have hkL : k < L.length := by have := hq'.out; omega
    obtain ⟨ag, ys, yk, e2, a0, a1, a2, a3, a4, hF⟩ := hop k hkK
    obtain ⟨bg, zs, zk, e3, b0, b1, b2, b3, b4, hG⟩ := hoq k hkL
    subst e2 e3
    have hzn := zip_next (n := n) hkK hkL
    have hzo := zip_no (n := n) hkK hkL
    have hss := hF.shape
    have hsz := hG.shape
    generalize K[k] = xF at *
    generalize L[k] = xG at *
    obtain ⟨⟨A3, m3, c3, rfl⟩, A4, m4, c4, rfl⟩ := hss
    obtain ⟨⟨A5, m5, c5, rfl⟩, A6, m6, c6, rfl⟩ := hsz
    replace a0 := ext_cell hx a0
    replace a1 := ext_cell hx a1
    replace a2 := ext_cell hx a2
    replace a3 := ext_cell hx a3
    replace a4 := ext_cell hx a4
    obtain ⟨wa, hwa⟩ : ∃ y7 : World, y7 = wr.alloc (.cells #[.int .i64 xF.kind, sv xF.typ, sv xF.val, .slice A3 m3 c3, .slice A4 m4 c4] 25) := ⟨_, rfl⟩
    obtain ⟨ga, hga⟩ : ∃ y8, y8 = wr.heap.size := ⟨_, rfl⟩
    have xa : Ext wr wa := by rw [hwa]; exact (Mod.refl _ wr).alloc _
    have BA : Blk wa ga 25 #[.int .i64 xF.kind, sv xF.typ, sv xF.val, .slice A3 m3 c3, .slice A4 m4 c4] := by rw [hwa, hga]; exact Blk.new wr _ _
    replace b0 := ext_cell (ext_trans hx xa) b0
    replace b1 := ext_cell (ext_trans hx xa) b1
    replace b2 := ext_cell (ext_trans hx xa) b2
    replace b3 := ext_cell (ext_trans hx xa) b3
    replace b4 := ext_cell (ext_trans hx xa) b4
    obtain ⟨wb, hwb⟩ : ∃ y7 : World, y7 = wa.alloc (.cells #[.int .i64 xG.kind, sv xG.typ, sv xG.val, .slice A5 m5 c5, .slice A6 m6 c6] 25) := ⟨_, rfl⟩
    obtain ⟨gb, hgb⟩ : ∃ y8, y8 = wa.heap.size := ⟨_, rfl⟩
    have xb : Ext wa wb := by rw [hwb]; exact (Mod.refl _ wa).alloc _
    have BB : Blk wb gb 25 #[.int .i64 xG.kind, sv xG.typ, sv xG.val, .slice A5 m5 c5, .slice A6 m6 c6] := by rw [hwb, hgb]; exact Blk.new wa _ _
    obtain ⟨-, p0, p1, p2, p3, p4⟩ := (BA.mod xb (fun h => h)).five
    obtain ⟨-, o0, o1, o2, o3, o4⟩ := BB.five
    have hxb := ext_trans hx (ext_trans xa xb)
    have hcall := ih (hF.ext hxb) (hG.ext hxb)
    replace hwa := Lib.hid hwa
    replace hga := Lib.hid hga
    replace hwb := Lib.hid hwb
    replace hgb := Lib.hid hgb
    clear hF hG xa xb BA BB hop hoq hkK hkL
    cases hqv : eqN n xF xG
    · have hr2 : Hid (R = false) := Lib.hid (by rw [hr.out, hzo hqv])
      rw [hqv] at hcall
      replace hcall := Lib.hid hcall
      clear hzn hzo hal hr hqv
      go_upto_region 6 with fail
      rw [← hwa.out, ← hga.out]
      clear hwa hga a0 a1 a2 a3 a4 hx
      go_upto_region 7 with fail
      rw [← hwb.out, ← hgb.out]
      clear hwb hgb b0 b1 b2 b3 b4
      go_wp2_with fail
      refine hcall.out.mono ?_
      rintro e w3 ⟨rfl, x3⟩
      go_wp2_with fail
      go_ret
      exact ⟨by rw [hr2.out]; rfl, ext_trans hxb x3⟩
    · have hal2 := Lib.hid (show ((K.take (k + 1)).zip (L.take (k + 1))).all (fun x => eqN n x.1 x.2) = true by rw [hzn, hal.out, hqv]; rfl)
      rw [hqv] at hcall
      replace hcall := Lib.hid hcall
      clear hzn hzo hal hr hqv
      go_upto_region 6 with fail
      rw [← hwa.out, ← hga.out]
      clear hwa hga a0 a1 a2 a3 a4 hx
      go_upto_region 7 with fail
      rw [← hwb.out, ← hgb.out]
      clear hwb hgb b0 b1 b2 b3 b4
      go_wp2_with fail
      refine hcall.out.mono ?_
      rintro e w3 ⟨rfl, x3⟩
      have x4 := ext_trans hxb x3
      clear hxb x3
      go_wp2_with fail
      exact ⟨⟨k + 1, by omega, by go_num, hal2, x4⟩, by simp [intOf] <;> omega⟩
set_option maxHeartbeats 32000000 in
theorem fsame_step {n : Nat} (ih : SamePI n) : SamePI (n + 1) := by
  intro w F G vs vk us uk h h'
  obtain ⟨R, hR⟩ : ∃ R, R = eqN (n + 1) F G := ⟨_, rfl⟩
  rw [← hR]
  rw [eqN_succ] at hR
  obtain ⟨-, -, hS, -⟩ := h.open_
  obtain ⟨-, -, hT, -⟩ := h'.open_
  obtain ⟨⟨As, m, cs, rfl⟩, A, q, ca, rfl⟩ := h.shape
  obtain ⟨⟨Bs', m', ds, rfl⟩, B, q', cb, rfl⟩ := h'.shape
  show Calls Try.prog 19 #[.agg #[.int .i64 F.kind, sv F.typ, sv F.val, .slice As m cs, .slice A q ca], .agg #[.int .i64 G.kind, sv G.typ, sv G.val, .slice Bs' m' ds, .slice B q' cb]] w _
  obtain ⟨w1, hw1⟩ : ∃ y7 : World, y7 = (w.alloc (.cells #[.int .i64 F.kind, sv F.typ, sv F.val, .slice As m cs, .slice A q ca] 25)).alloc (.cells #[.int .i64 G.kind, sv G.typ, sv G.val, .slice Bs' m' ds, .slice B q' cb] 25) := ⟨_, rfl⟩
  obtain ⟨p, hp⟩ : ∃ y8, y8 = w.heap.size := ⟨_, rfl⟩
  have x1 : Ext w w1 := by rw [hw1]; exact ((Mod.refl _ w).alloc _).alloc _
  have BP : Blk w1 p 25 #[.int .i64 F.kind, sv F.typ, sv F.val, .slice As m cs, .slice A q ca] := by rw [hw1, hp]; exact (Blk.new w _ _).alloc _
  have BQ : Blk w1 (p + 1) 25 #[.int .i64 G.kind, sv G.typ, sv G.val, .slice Bs' m' ds, .slice B q' cb] := by
    rw [hw1, hp]
    have := Blk.new (w.alloc (.cells #[.int .i64 F.kind, sv F.typ, sv F.val, .slice As m cs, .slice A q ca] 25)) 25 #[.int .i64 G.kind, sv G.typ, sv G.val, .slice Bs' m' ds, .slice B q' cb]
    simpa using this
  have hcc : ∀ {wx : World}, Ext w1 wx → wx.cell? ⟨p, 4, none⟩ = some (.slice A q ca) ∧ wx.cell? ⟨p + 1, 4, none⟩ = some (.slice B q' cb) := fun x => ⟨(BP.mod x (fun h => h)).cell 4, (BQ.mod x (fun h => h)).cell 4⟩
  obtain ⟨-, p0, p1, p2, p3, p4⟩ := BP.five
  obtain ⟨-, o0, o1, o2, o3, o4⟩ := BQ.five
  have htx := eqS16_any (Sl.ext hS x1) (Sl.ext hT x1)
  have hkk := fun {wx : World} (x : Ext w wx) => Lib.hid (eqK_any ih (h.ext x) (h'.ext x))
  clear h h' hS hT
  obtain ⟨D, hD⟩ : ∃ D, D = (decide (F.kids.length = G.kids.length) && (F.kids.zip G.kids).all (fun x => eqN n x.1 x.2)) := ⟨_, rfl⟩
  rw [← hD] at hkk hR
  clear hD
  obtain ⟨X, hX⟩ : ∃ X, X = decide (F.subs = G.subs) := ⟨_, rfl⟩
  rw [← hX] at htx hR
  clear hX
  generalize F.kind = kd at *
  generalize F.typ = T at *
  generalize F.val = V at *
  generalize G.kind = kd' at *
  generalize G.typ = T' at *
  generalize G.val = V' at *
  replace hw1 := Lib.hid hw1
  replace hp := Lib.hid hp
  replace hR := Lib.hid hR
  replace htx := Lib.hid htx
  clear BP BQ
  go_enter Try.func19, Try.ntmps19
  go_upto_region 1 with fail
  rw [← hw1.out, ← hp.out]
  clear hw1 hp
  cases hk : (kd == kd')
  · have hr : Hid (R = false) := Lib.hid (by rw [hR.out, hk]; rfl)
    clear hR htx hkk
    go_wp2_with fail
    go_ret
    exact ⟨by rw [hr.out]; rfl, x1⟩
  cases hT : (T == T')
  · have hr : Hid (R = false) := Lib.hid (by rw [hR.out, hk, hT]; rfl)
    clear hR htx hkk
    go_wp2_with fail
    go_ret
    exact ⟨by rw [hr.out]; rfl, x1⟩
  cases hV : (V == V')
  · have hr : Hid (R = false) := Lib.hid (by rw [hR.out, hk, hT, hV]; rfl)
    clear hR htx hkk
    go_wp2_with fail
    go_ret
    exact ⟨by rw [hr.out]; rfl, x1⟩
  have hR2 : R = (X && D) := by rw [hR.out, hk, hT, hV]; rfl
  replace hR2 := Lib.hid hR2
  clear hR
  cases X
  · have hr : Hid (R = false) := Lib.hid (by rw [hR2.out]; rfl)
    clear hR2 hkk
    go_wp2_with fail
    refine htx.out.mono ?_
    rintro e w2 ⟨rfl, x2⟩
    go_wp2_with fail
    go_ret
    exact ⟨by rw [hr.out]; rfl, ext_trans x1 x2⟩
  have hr : Hid (R = D) := Lib.hid (by rw [hR2.out]; rfl)
  clear hR2
  go_wp2_with fail
  refine htx.out.mono ?_
  rintro e w2 ⟨rfl, x2⟩
  obtain ⟨g4, g5⟩ := hcc x2
  have x3 := ext_trans x1 x2
  have hk2 := hkk x3
  clear p0 p1 p2 p3 p4 o0 o1 o2 o3 o4 htx hk hT hV hkk
  go_wp2_with fail
  refine hk2.out.mono ?_
  rintro e w4 ⟨rfl, x4⟩
  go_wp2_with fail
  go_ret
  exact ⟨by rw [hr.out]; rfl, ext_trans x3 x4⟩
theorem fsame_any : ∀ n, SamePI n
  | 0 => fun h => h.elim
  | n + 1 => fsame_step (fsame_any n)
end Go.Proofs.Ytekocbphdckmkaa
