/- msg: is a request more than is looked at? -/
import Derived.Test.YtoockogceobfgaaGreatMfCm
import Derived.Test.YtoockogceobfgaaGreatMgHam
namespace Go.Proofs.YtoockogceobfgaaGreat
open Go.RowKit
set_option maxRecDepth 100000

/-- No text is longer than a million. -/
structure BFit (r : Rq) : Prop where
  dn : r.dn.length ≤ 1048576
  pa : r.pass.length ≤ 1048576
  rd : r.rdn.length ≤ 1048576
  up : r.up.length ≤ 1048576
  at1 : r.avt.length ≤ 1048576
  at2 : r.avv.length ≤ 1048576
  wa : ∀ s ∈ r.want, s.length ≤ 1048576
  mo : ∀ m ∈ r.mods, m.typ.length ≤ 1048576 ∧ ∀ s ∈ m.vals, s.length ≤ 1048576
  at_ : ∀ a ∈ r.ats, a.typ.length ≤ 1048576 ∧ ∀ s ∈ a.vals, s.length ≤ 1048576
def mQ (m : Md) : Nat := 9 + m.typ.length + wQ m.vals
def aQ (a : Att) : Nat := 9 + a.typ.length + wQ a.vals
def wR0 (r : Rq) : Nat := r.dn.length + r.pass.length + r.rdn.length + r.up.length + r.avt.length + r.avv.length + wQ r.want
def wR1 (r : Rq) : Nat := ((r.mods.take 200).map mQ).sum
def wR2 (r : Rq) : Nat := ((r.ats.take 200).map aQ).sum
def heavyQ (n : Nat) (r : Rq) : Bool := decide (2500 < wR0 r + wR1 r + wR2 r) || decide (1500 < wF25 n r.fil)
/-- The lengths of its texts are small enough for memory. -/
structure LFit (r : Rq) : Prop where
  dn : r.dn.length ≤ 140737488351232
  pa : r.pass.length ≤ 140737488351232
  rd : r.rdn.length ≤ 140737488351232
  up : r.up.length ≤ 140737488351232
  at1 : r.avt.length ≤ 140737488351232
  at2 : r.avv.length ≤ 140737488351232
  wa : ∀ s ∈ r.want, s.length ≤ 140737488351232
  mo : ∀ m ∈ r.mods, m.typ.length ≤ 140737488351232 ∧ ∀ s ∈ m.vals, s.length ≤ 140737488351232
  at_ : ∀ a ∈ r.ats, a.typ.length ≤ 140737488351232 ∧ ∀ s ∈ a.vals, s.length ≤ 140737488351232
theorem wlo (x : Int) : -9223372036854775808 ≤ IntKind.i64.wrap x ∧ IntKind.i64.wrap x ≤ 9223372036854775807 := by rw [IntKind.wrap_i64]; omega
theorem wQ_le64 {m : Nat} {L : List (List UInt8)} (h : ∀ s ∈ L, s.length ≤ m) (hl : L.length ≤ 64) : wQ L ≤ (m + 3) * 64 := by
  unfold wQ
  rw [List.take_of_length_le (by omega)]
  have := sumQ_le vQ (m + 3) L (fun a ha => by have := h a ha; unfold vQ; omega)
  have h2 : (m + 3) * L.length ≤ (m + 3) * 64 := Nat.mul_le_mul_left _ hl
  omega
theorem sum64 {α : Type} (f : α → Nat) {L : List α} {c : Nat} (h : ∀ a ∈ L, f a ≤ c) (hl : L.length ≤ 64) (k : Nat) : ((L.take k).map f).sum ≤ c * 64 := by
  have h1 := sumQ_le f c (L.take k) (fun a ha => h a (List.mem_of_mem_take ha))
  have h2 : c * (L.take k).length ≤ c * 64 := Nat.mul_le_mul_left _ (by rw [List.length_take]; omega)
  omega
theorem wrap3 {s c N : Int} {a b : Nat} (h : s = N) (h0 : 0 ≤ N) (hc : N + 9 + a + b ≤ c) (hc2 : c ≤ 9000000000000000000) : IntKind.i64.wrap (IntKind.i64.wrap (IntKind.i64.wrap (s + 9) + (a : Int)) + (b : Int)) = N + 9 + a + b := by
  subst h
  rw [wid (x := s + 9) (by omega) (by omega), wid (x := s + 9 + a) (by omega) (by omega), wid (by omega) (by omega)]
set_option maxHeartbeats 16000000 in
theorem heavy25_any {n : Nat} {w : World} {r : Rq} {A0 A1 A2 A3 A4 : Option Addr} {A0n A0c A1n A1c A2n A2c A3n A3c A4n A4c : Nat} (h : RqAt n w r (.slice A0 A0n A0c) (.slice A1 A1n A1c) (.slice A2 A2n A2c) (.slice A3 A3n A3c) (.slice A4 A4n A4c)) (hb : LFit r) :
    Calls Tryz.prog 13 #[.agg #[.int .i64 r.num, .int .i64 r.kind, sv r.dn, sv r.pass, .int .i64 r.scope, .int .i64 r.limit, .int .i64 r.fil.kind, sv r.fil.typ, sv r.fil.val, .slice A0 A0n A0c, .slice A1 A1n A1c, .slice A2 A2n A2c, .slice A3 A3n A3c, .slice A4 A4n A4c, sv r.rdn, .bool r.keep, .bool r.above, sv r.up, sv r.avt, sv r.avv, .int .i64 r.which]] w fun e w' => ∃ H : Bool, e = .returned (.bool H) ∧ (listsQ r = true → H = heavyQ n r) ∧ (H = false → wF25 n r.fil ≤ 1500) ∧ Ext w w' := by
  obtain ⟨-, l3, l4⟩ := h.lens
  obtain ⟨bm, bmc, bme, -⟩ := h.mods.open_
  obtain ⟨ba, bac, bae, -⟩ := h.ats.open_
  have hmb := h.mods.bound_
  have hab := h.ats.bound_
  have hom := fun {wx : World} (x : Ext w wx) => (h.mods.ext x).open_
  have hoa := fun {wx : World} (x : Ext w wx) => (h.ats.ext x).open_
  have hwa := fun (wx : World) (x : Ext w wx) => weight25_any (Sl.mod h.want x (fun _ _ _ h => h)) (fun s hs => by have := hb.wa s hs; omega)
  have hwl := wQ_le hb.wa
  obtain ⟨w1, hw1⟩ : ∃ x, x = w.alloc (.cells #[.int .i64 r.num, .int .i64 r.kind, sv r.dn, sv r.pass, .int .i64 r.scope, .int .i64 r.limit, .int .i64 r.fil.kind, sv r.fil.typ, sv r.fil.val, .slice A0 A0n A0c, .slice A1 A1n A1c, .slice A2 A2n A2c, .slice A3 A3n A3c, .slice A4 A4n A4c, sv r.rdn, .bool r.keep, .bool r.above, sv r.up, sv r.avt, sv r.avv, .int .i64 r.which] 32) := ⟨_, rfl⟩
  obtain ⟨p, hp⟩ : ∃ p, p = w.heap.size := ⟨_, rfl⟩
  have x1 : Ext w w1 := by rw [hw1]; exact (Mod.refl _ w).alloc _
  have BP : Blk w1 p 32 #[.int .i64 r.num, .int .i64 r.kind, sv r.dn, sv r.pass, .int .i64 r.scope, .int .i64 r.limit, .int .i64 r.fil.kind, sv r.fil.typ, sv r.fil.val, .slice A0 A0n A0c, .slice A1 A1n A1c, .slice A2 A2n A2c, .slice A3 A3n A3c, .slice A4 A4n A4c, sv r.rdn, .bool r.keep, .bool r.above, sv r.up, sv r.avt, sv r.avv, .int .i64 r.which] := by rw [hw1, hp]; exact Blk.new w _ _
  have hcc : ∀ wx, Ext w1 wx → wx.cell? ⟨p, 2, none⟩ = some (sv r.dn) ∧ wx.cell? ⟨p, 3, none⟩ = some (sv r.pass) ∧ wx.cell? ⟨p, 14, none⟩ = some (sv r.rdn) ∧ wx.cell? ⟨p, 17, none⟩ = some (sv r.up) ∧ wx.cell? ⟨p, 18, none⟩ = some (sv r.avt) ∧ wx.cell? ⟨p, 19, none⟩ = some (sv r.avv) ∧ wx.cell? ⟨p, 11, none⟩ = some (.slice A2 A2n A2c) := fun wx x => ⟨(BP.mod x (fun h => h)).cell 2, (BP.mod x (fun h => h)).cell 3, (BP.mod x (fun h => h)).cell 14, (BP.mod x (fun h => h)).cell 17, (BP.mod x (fun h => h)).cell 18, (BP.mod x (fun h => h)).cell 19, (BP.mod x (fun h => h)).cell 11⟩
  have hcm : ∀ {wx : World}, Ext w1 wx → wx.cell? ⟨p, 12, none⟩ = some (.slice A3 A3n A3c) := fun x => (BP.mod x (fun h => h)).cell 12
  have hca : ∀ {wx : World}, Ext w1 wx → wx.cell? ⟨p, 13, none⟩ = some (.slice A4 A4n A4c) := fun x => (BP.mod x (fun h => h)).cell 13
  have hcf : ∀ {wx : World}, Ext w1 wx → wx.cell? ⟨p, 6, none⟩ = some (.int .i64 r.fil.kind) ∧ wx.cell? ⟨p, 7, none⟩ = some (sv r.fil.typ) ∧ wx.cell? ⟨p, 8, none⟩ = some (sv r.fil.val) ∧ wx.cell? ⟨p, 9, none⟩ = some (.slice A0 A0n A0c) ∧ wx.cell? ⟨p, 10, none⟩ = some (.slice A1 A1n A1c) := fun x => ⟨(BP.mod x (fun h => h)).cell 6, (BP.mod x (fun h => h)).cell 7, (BP.mod x (fun h => h)).cell 8, (BP.mod x (fun h => h)).cell 9, (BP.mod x (fun h => h)).cell 10⟩
  have hfil := fun {wx : World} (x : Ext w wx) => filter25_any n (h.fil.ext x) (left := 1500) (by omega) (by omega)
  obtain ⟨KM, hKM⟩ : ∃ K, K = r.mods := ⟨_, rfl⟩
  obtain ⟨KA, hKA⟩ : ∃ K, K = r.ats := ⟨_, rfl⟩
  obtain ⟨M, hM⟩ : ∃ M, M = heavyQ n r := ⟨_, rfl⟩
  rw [← hM]
  unfold heavyQ wR1 wR2 at hM
  have hPm : listsQ r = true → (r.mods.length ≤ 64 ∧ ∀ m ∈ r.mods, m.vals.length ≤ 64) ∧ (r.ats.length ≤ 64 ∧ ∀ a ∈ r.ats, a.vals.length ≤ 64) := fun g => by
    unfold listsQ at g
    simp only [Bool.and_eq_true, decide_eq_true_eq, List.all_eq_true] at g
    exact ⟨⟨g.1.2.1, fun m hm => (g.2.1 m hm).2.2⟩, g.1.2.2, fun a ha => g.2.2 a ha⟩
  obtain ⟨P, hP⟩ : ∃ P : Prop, P = (listsQ r = true) := ⟨_, rfl⟩
  rw [← hP] at hPm ⊢
  clear hP
  have hmo := hb.mo
  have hat := hb.at_
  rw [← hKM] at hom hM l3 hmo hmb hPm
  rw [← hKA] at hoa hM l4 hat hab hPm
  have hPM : Hid (P → ∀ k, ((KM.take k).map mQ).sum ≤ 585467951541137984) := Lib.hid (fun g k => sum64 mQ (c := 9147936742830281) (fun m hm => by have h1 := hmo m hm; have h2 := wQ_le64 h1.2 ((hPm g).1.2 m hm); unfold mQ; omega) (hPm g).1.1 k)
  have hPA : Hid (P → ∀ k, ((KA.take k).map aQ).sum ≤ 585467951541137984) := Lib.hid (fun g k => sum64 aQ (c := 9147936742830281) (fun a ha => by have h1 := hat a ha; have h2 := wQ_le64 h1.2 ((hPm g).2.2 a ha); unfold aQ; omega) (hPm g).2.1 k)
  clear hPm
  obtain ⟨N0, hN0⟩ : ∃ N, N = wR0 r := ⟨_, rfl⟩
  obtain ⟨Wf, hWf⟩ : ∃ N, N = wF25 n r.fil := ⟨_, rfl⟩
  rw [← hN0, ← hWf] at hM
  simp only [← hWf] at hfil ⊢
  unfold wR0 at hN0
  obtain ⟨Wq, hWq⟩ : ∃ N, N = wQ r.want := ⟨_, rfl⟩
  rw [← hWq] at hN0 hwl
  simp only [← hWq] at hwa
  have b1 := hb.dn
  have b2 := hb.pa
  have b3 := hb.rd
  have b4 := hb.up
  have b5 := hb.at1
  have b6 := hb.at2
  have hN9 : N0 ≤ 150000000000000000 := by omega
  have hz1 := sv_size r.dn
  have hz2 := sv_size r.pass
  have hz3 := sv_size r.rdn
  have hz4 := sv_size r.up
  have hz5 := sv_size r.avt
  have hz6 := sv_size r.avv
  have hN0i : Hid (((r.dn.length : Int) + r.pass.length + r.rdn.length + r.up.length + r.avt.length + r.avv.length + Wq) = (N0 : Int)) := Lib.hid (by rw [hN0]; push_cast; rfl)
  replace l3 := Lib.hid l3
  replace l4 := Lib.hid l4
  replace hM := Lib.hid hM
  replace hw1 := Lib.hid hw1
  replace hp := Lib.hid hp
  have q0 : Ext w1 w1.drew := (Mod.refl _ w1).drew
  clear BP h hb hKM hKA hN0 hWf hWq bme bae
  go_enter Tryz.func13, Tryz.ntmps13
  go_upto_region 1 with fail
  rw [← hw1.out, ← hp.out]
  clear hw1 hp
  go_region_held3 (fun wx => wx.cell? ⟨p, 2, none⟩ = some (sv r.dn) ∧ wx.cell? ⟨p, 3, none⟩ = some (sv r.pass) ∧ wx.cell? ⟨p, 14, none⟩ = some (sv r.rdn) ∧ wx.cell? ⟨p, 17, none⟩ = some (sv r.up) ∧ wx.cell? ⟨p, 18, none⟩ = some (sv r.avt) ∧ wx.cell? ⟨p, 19, none⟩ = some (sv r.avv) ∧ wx.cell? ⟨p, 11, none⟩ = some (.slice A2 A2n A2c)) (first | exact hcc _ qa | exact hcc _ q0) (first
    | (go_at_call 40; (with_reducible refine (hwa _ (ext_trans x1 q0)).mono ?_); rintro e wa ⟨rfl, a3⟩; have qa := ext_trans q0 a3))
  clear hwa hcc hz1 hz2 hz3 hz4 hz5 hz6
  go_wp2_with fail
  go_loopw [3, 4] (fun v i wr => ∃ (k : Nat) (s : Int), k ≤ A3n ∧ k ≤ 200 ∧ i = .int .i64 k ∧ v = .int .i64 s ∧ Hid (P → s = ((N0 + ((KM.take k).map mQ).sum : Nat) : Int)) ∧ (-9223372036854775808 ≤ s ∧ s ≤ 9223372036854775807) ∧ Ext w1 wr) (fun _ i _ => A3n - (intOf i).toNat)
  case atStart => exact ⟨0, N0, Nat.zero_le _, by omega, rfl, (by rw [wid (x := (r.dn.length : Int) + r.pass.length) (by omega) (by omega), wid (x := (r.dn.length : Int) + r.pass.length + r.rdn.length) (by omega) (by omega), wid (x := (r.dn.length : Int) + r.pass.length + r.rdn.length + r.up.length) (by omega) (by omega), wid (x := (r.dn.length : Int) + r.pass.length + r.rdn.length + r.up.length + r.avt.length) (by omega) (by omega), wid (x := (r.dn.length : Int) + r.pass.length + r.rdn.length + r.up.length + r.avt.length + r.avv.length) (by omega) (by omega), wid (x := (r.dn.length : Int) + r.pass.length + r.rdn.length + r.up.length + r.avt.length + r.avv.length + Wq) (by omega) (by omega), hN0i.out]), Lib.hid (fun _ => by simp), by omega, qa⟩
  case round =>
    obtain ⟨k, s, hk, hk8, rfl, rfl, hsm, hsb, hx⟩ := hrel
    have p12 := hcm hx
    by_cases hgo : k < A3n ∧ k < 200
    · obtain ⟨hlt, hlt8⟩ := hgo
      have d1 : decide ((k : Int) < (A3n : Int)) = true := dtrue (by omega)
      have d1n : decide (k < A3n) = true := dtrue hlt
      have d2 : decide ((k : Int) < 200) = true := dtrue (by omega)
      have d2n : decide (k < 200) = true := dtrue hlt8
      have hj0 : (0 : Int) ≤ (k : Int) := by omega
      have hj1 : (k : Int) < (A3n : Int) := by omega
      have hkL : k < KM.length := by have := l3.out; omega
      have hop1 := hom (ext_trans x1 hx)
      obtain ⟨A', ca', g1', h5⟩ := hop1
      rw [← l3.out] at g1'
      injection g1' with g1' _ g3'
      subst g1'
      subst g3'
      obtain ⟨ag, y1, e2, a0, a1, a2, hF⟩ := h5 k hkL
      subst e2
      obtain ⟨A9, m9, c9, rfl⟩ : ∃ A n c, y1 = .slice A n c := by obtain ⟨A, c, e, _⟩ := hF.open_; exact ⟨A, _, c, e⟩
      have hsn := sumQ_next mQ KM hkL
      have hxl := hmo _ (List.getElem_mem hkL)
      generalize KM[k] = x at *
      have hwv := fun (wx : World) (z : Ext wr wx) => weight25_any (Sl.mod hF z (fun _ _ _ h => h)) (fun s hs => by have := hxl.2 s hs; omega)
      have hwl2 := wQ_le hxl.2
      have hxt := hxl.1
      obtain ⟨U, hU⟩ : ∃ U, U = wQ x.vals := ⟨_, rfl⟩
      rw [← hU] at hwl2
      simp only [← hU] at hwv
      have hsm2 : Hid (P → IntKind.i64.wrap (IntKind.i64.wrap (IntKind.i64.wrap (s + 9) + (x.typ.length : Int)) + (U : Int)) = ((N0 + ((KM.take (k + 1)).map mQ).sum : Nat) : Int)) := Lib.hid (fun g => by
        have h1 := hPM.out g (k + 1)
        have h2 : mQ x = 9 + x.typ.length + U := by unfold mQ; rw [← hU]
        rw [hsn, h2] at h1
        rw [wrap3 (c := 9000000000000000000) (hsm.out g) (by omega) (by omega) (by omega), hsn, h2]
        omega)
      generalize x.typ = xt at *
      have hzx := sv_size xt
      have r0 : Ext wr wr.drew := (Mod.refl _ wr).drew
      have hS : ∀ wx, Ext wr wx → wx.cell? ⟨p, 12, none⟩ = some (.slice (some ag) A3n A3c) ∧ wx.cell? ⟨(ag.add (k * 3)).block, (ag.add (k * 3)).off + 1, none⟩ = some (sv xt) ∧ wx.cell? ⟨(ag.add (k * 3)).block, (ag.add (k * 3)).off + 2, none⟩ = some (.slice A9 m9 c9) := fun wx z => ⟨ext_cell z p12, ext_cell z a1, ext_cell z a2⟩
      clear hsn hsm hkL hF hmo hxl hU h5 hom
      go_wp2_with fail
      go_region_held3 (fun wx => wx.cell? ⟨p, 12, none⟩ = some (.slice (some ag) A3n A3c) ∧ wx.cell? ⟨(ag.add (k * 3)).block, (ag.add (k * 3)).off + 1, none⟩ = some (sv xt) ∧ wx.cell? ⟨(ag.add (k * 3)).block, (ag.add (k * 3)).off + 2, none⟩ = some (.slice A9 m9 c9)) (first | exact hS _ rb | exact hS _ r0) (first
        | (go_at_call 40; (with_reducible refine (hwv _ r0).mono ?_); rintro e wb ⟨rfl, b3⟩; have rb := ext_trans r0 b3))
      have hx2 := ext_trans hx rb
      clear hS hwv p12 a0 a1 a2 rb r0 hx
      go_wp2_with fail
      exact ⟨⟨k + 1, IntKind.i64.wrap (IntKind.i64.wrap (IntKind.i64.wrap (s + 9) + (xt.length : Int)) + (U : Int)), by omega, by omega, by go_num, rfl, hsm2, wlo _, hx2⟩, by simp [intOf] <;> omega⟩
    have hend : Hid (((KM.take 200).map mQ).sum = ((KM.take k).map mQ).sum) := Lib.hid (by
      by_cases hlt : k < A3n
      · have : k = 200 := by omega
        rw [this]
      · have hkn : k = KM.length := by have := l3.out; omega
        rw [hkn, List.take_length]
        by_cases h200 : KM.length ≤ 200
        · rw [List.take_of_length_le h200]
        · omega)
    have hor : (decide ((k : Int) < (A3n : Int)) = false ∧ decide (k < A3n) = false) ∨ (decide ((k : Int) < (A3n : Int)) = true ∧ decide (k < A3n) = true ∧ decide ((k : Int) < 200) = false ∧ decide (k < 200) = false) := by
      by_cases hlt : k < A3n
      · exact .inr ⟨dtrue (by omega), dtrue (by omega), dfalse (by omega), dfalse (by omega)⟩
      · exact .inl ⟨dfalse (by omega), dfalse (by omega)⟩
    obtain ⟨N1, hN1⟩ : ∃ N, N = ((KM.take 200).map mQ).sum := ⟨_, rfl⟩
    have hs1 : Hid (P → s = ((N0 + N1 : Nat) : Int)) := Lib.hid (fun g => by rw [hsm.out g, hN1, hend.out])
    have hN1b : Hid (P → N1 ≤ 585467951541137984) := Lib.hid (fun g => by rw [hN1]; exact hPM.out g 200)
    have hM1 : Hid (M = (decide (2500 < N0 + N1 + ((KA.take 200).map aQ).sum) || decide (1500 < Wf))) := Lib.hid (by rw [hM.out, hN1])
    have hsb2 := hsb
    clear hend hsm hgo hN1 hM hom hmo hcm hPM
    rcases hor with ⟨d1, d1n⟩ | ⟨d1, d1n, d2, d2n⟩
    all_goals
      go_wp2_with fail
      go_loopw [3, 5] (fun v i wr' => ∃ (k : Nat) (t : Int), k ≤ A4n ∧ k ≤ 200 ∧ i = .int .i64 k ∧ v = .int .i64 t ∧ Hid (P → t = ((N0 + N1 + ((KA.take k).map aQ).sum : Nat) : Int)) ∧ (-9223372036854775808 ≤ t ∧ t ≤ 9223372036854775807) ∧ Ext w1 wr') (fun _ i _ => A4n - (intOf i).toNat)
      case atStart => exact ⟨0, s, Nat.zero_le _, by omega, rfl, rfl, Lib.hid (fun g => by rw [hs1.out g]; simp), hsb2, hx⟩
      case round =>
        clear p12 hx hsb d1 d1n hk hk8
        obtain ⟨k, t, hk, hk8, rfl, rfl, hsm, hsb, hx⟩ := hrel
        have p13 := hca hx
        by_cases hgo : k < A4n ∧ k < 200
        · obtain ⟨hlt, hlt8⟩ := hgo
          have d1 : decide ((k : Int) < (A4n : Int)) = true := dtrue (by omega)
          have d1n : decide (k < A4n) = true := dtrue hlt
          have d2 : decide ((k : Int) < 200) = true := dtrue (by omega)
          have d2n : decide (k < 200) = true := dtrue hlt8
          have hj0 : (0 : Int) ≤ (k : Int) := by omega
          have hj1 : (k : Int) < (A4n : Int) := by omega
          have hkL : k < KA.length := by have := l4.out; omega
          have hop1 := hoa (ext_trans x1 hx)
          obtain ⟨A', ca', g1', h5⟩ := hop1
          rw [← l4.out] at g1'
          injection g1' with g1' _ g3'
          subst g1'
          subst g3'
          obtain ⟨ag, y1, e2, a0, a1, hF⟩ := h5 k hkL
          subst e2
          obtain ⟨A9, m9, c9, rfl⟩ : ∃ A n c, y1 = .slice A n c := by obtain ⟨A, c, e, _⟩ := hF.open_; exact ⟨A, _, c, e⟩
          have hsn := sumQ_next aQ KA hkL
          have hxl := hat _ (List.getElem_mem hkL)
          generalize KA[k] = x at *
          have hwv := fun (wx : World) (z : Ext wr wx) => weight25_any (Sl.mod hF z (fun _ _ _ h => h)) (fun s hs => by have := hxl.2 s hs; omega)
          have hwl2 := wQ_le hxl.2
          have hxt := hxl.1
          obtain ⟨U, hU⟩ : ∃ U, U = wQ x.vals := ⟨_, rfl⟩
          rw [← hU] at hwl2
          simp only [← hU] at hwv
          have hsm2 : Hid (P → IntKind.i64.wrap (IntKind.i64.wrap (IntKind.i64.wrap (t + 9) + (x.typ.length : Int)) + (U : Int)) = ((N0 + N1 + ((KA.take (k + 1)).map aQ).sum : Nat) : Int)) := Lib.hid (fun g => by
            have h1 := hPA.out g (k + 1)
            have h0 := hN1b.out g
            have h2 : aQ x = 9 + x.typ.length + U := by unfold aQ; rw [← hU]
            rw [hsn, h2] at h1
            rw [wrap3 (c := 9000000000000000000) (hsm.out g) (by omega) (by omega) (by omega), hsn, h2]
            omega)
          generalize x.typ = xt at *
          have hzx := sv_size xt
          have r0 : Ext wr wr.drew := (Mod.refl _ wr).drew
          have hS : ∀ wx, Ext wr wx → wx.cell? ⟨p, 13, none⟩ = some (.slice (some ag) A4n A4c) ∧ wx.cell? (ag.add (k * 2)) = some (sv xt) ∧ wx.cell? ⟨(ag.add (k * 2)).block, (ag.add (k * 2)).off + 1, none⟩ = some (.slice A9 m9 c9) := fun wx z => ⟨ext_cell z p13, ext_cell z a0, ext_cell z a1⟩
          clear hsn hsm hkL hF hat hxl hU h5 hoa
          go_wp2_with fail
          go_region_held3 (fun wx => wx.cell? ⟨p, 13, none⟩ = some (.slice (some ag) A4n A4c) ∧ wx.cell? (ag.add (k * 2)) = some (sv xt) ∧ wx.cell? ⟨(ag.add (k * 2)).block, (ag.add (k * 2)).off + 1, none⟩ = some (.slice A9 m9 c9)) (first | exact hS _ rb | exact hS _ r0) (first
            | (go_at_call 40; (with_reducible refine (hwv _ r0).mono ?_); rintro e wb ⟨rfl, b3⟩; have rb := ext_trans r0 b3))
          have hx2 := ext_trans hx rb
          clear hS hwv p13 a0 a1 rb r0 hx
          go_wp2_with fail
          exact ⟨⟨k + 1, IntKind.i64.wrap (IntKind.i64.wrap (IntKind.i64.wrap (t + 9) + (xt.length : Int)) + (U : Int)), by omega, by omega, by go_num, rfl, hsm2, wlo _, hx2⟩, by simp [intOf] <;> omega⟩
        have hend : Hid (((KA.take 200).map aQ).sum = ((KA.take k).map aQ).sum) := Lib.hid (by
          by_cases hlt : k < A4n
          · have : k = 200 := by omega
            rw [this]
          · have hkn : k = KA.length := by have := l4.out; omega
            rw [hkn, List.take_length]
            by_cases h200 : KA.length ≤ 200
            · rw [List.take_of_length_le h200]
            · omega)
        have hor : (decide ((k : Int) < (A4n : Int)) = false ∧ decide (k < A4n) = false) ∨ (decide ((k : Int) < (A4n : Int)) = true ∧ decide (k < A4n) = true ∧ decide ((k : Int) < 200) = false ∧ decide (k < 200) = false) := by
          by_cases hlt : k < A4n
          · exact .inr ⟨dtrue (by omega), dtrue (by omega), dfalse (by omega), dfalse (by omega)⟩
          · exact .inl ⟨dfalse (by omega), dfalse (by omega)⟩
        have hM2 : Hid (P → M = (decide (2500 < t) || decide (1500 < Wf))) := Lib.hid (fun g => by
          rw [hM1.out, hend.out]
          have h1 := hsm.out g
          congr 1
          exact decide_eq_decide.2 (by omega))
        have hfl := hfil (ext_trans x1 hx)
        have hcf1 := hcf hx
        obtain ⟨f6, f7, f8, f9, f10⟩ := hcf1
        replace hfl := Lib.hid hfl
        clear hend hsm hgo hM1 hoa hat hca hfil hcf hs1 hPA hN1b
        by_cases hbig : 2500 < t
        · have d3 : decide (t > 2500) = true := dtrue (by omega)
          have d3n : decide (2500 < t) = true := dtrue hbig
          have hr : Hid (P → M = true) := Lib.hid (fun g => by rw [hM2.out g, d3n]; rfl)
          clear hM2 hfl hbig
          rcases hor with ⟨d1, d1n⟩ | ⟨d1, d1n, d2, d2n⟩
          all_goals
            go_wp2_with fail
            go_ret
            exact ⟨true, rfl, fun g => (hr.out g).symm, by simp, ext_trans x1 hx⟩
        · have d3 : decide (t > 2500) = false := dfalse (by omega)
          have d3n : decide (2500 < t) = false := dfalse hbig
          have hM3 : Hid (P → M = decide (1500 < Wf)) := Lib.hid (fun g => by rw [hM2.out g, d3n]; rfl)
          clear hM2 hbig
          rcases hor with ⟨d1, d1n⟩ | ⟨d1, d1n, d2, d2n⟩
          all_goals
            go_wp2_with fail
            refine hfl.out.mono ?_
            rintro e w9 ⟨rr, rfl, hv, x9⟩
            have hzz : decide (rr < 0) = decide (1500 < Wf) := by
              rcases hv with ⟨h1, h2⟩ | ⟨h1, h2, h3⟩
              · rw [dfalse (show ¬ rr < 0 by omega), dfalse (show ¬ 1500 < Wf by omega)]
              · rw [dtrue (show rr < 0 from h2), dtrue (show 1500 < Wf by omega)]
            clear hv hfl f6 f7 f8 f9 f10
            obtain ⟨M3, hM30⟩ : ∃ M3, M3 = decide (1500 < Wf) := ⟨_, rfl⟩
            have hM32 : M3 = false → Wf ≤ 1500 := fun e => by rw [hM30] at e; have := of_decide_eq_false e; omega
            rw [← hM30] at hzz
            have hM33 : Hid (P → M3 = M) := Lib.hid (fun g => by rw [hM3.out g, hM30])
            clear hM3 hM30
            replace hM32 := Lib.hid hM32
            go_wp2_with fail
            go_ret
            exact ⟨M3, by first | rfl | rw [hzz], hM33.out, hM32.out, ext_trans x1 (ext_trans hx x9)⟩
end Go.Proofs.YtoockogceobfgaaGreat
