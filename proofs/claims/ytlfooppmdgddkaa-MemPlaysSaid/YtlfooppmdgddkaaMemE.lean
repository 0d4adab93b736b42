/- mem: what a Mem's writes turn; grow. -/
import Derived.Test.YtlfooppmdgddkaaMemD
import Derived.Deep.RegionHeld3
import Derived.Deep.RegionLaw
import Derived.BigRegion
import Derived.Deep.DeepCutAuto
namespace Go.Proofs.Ytlfooppmdgddkaa
open Go.RowKit
set_option maxRecDepth 100000

theorem setg_mod (w : World) (g i : Nat) (u : Value) : Mod (fun k => k = g) w (w.setCell ⟨g, i, none⟩ u) := (Mod.refl (fun k => k = g) w).setCell (p := ⟨g, i, none⟩) (fun _ => rfl) u
theorem Own.ty {w : World} {e : TypeId} {v : Value} {xs : List Value} (h : Own w e v xs) {k : Nat} (hk : own v k) : ∃ cur, Blk w k e cur := by
  rcases h.2 with ⟨rfl, _⟩ | ⟨g, cap, cur, rfl, _, hh, _⟩
  · cases hk
  · cases hk; exact ⟨cur, hh⟩
theorem OwnK.ty {w : World} {e : TypeId} {k n : Nat} {v : Value} {xs : List Value} (h : OwnK w e k v n xs) {b : Nat} (hb : own v b) : ∃ cur, Blk w b e cur := by
  rcases h.2 with ⟨rfl, _⟩ | ⟨g, cap, cur, rfl, _, hh, _⟩
  · cases hb
  · cases hb; exact ⟨cur, hh⟩
theorem Blk.ty_eq {w : World} {g : Nat} {t t' : TypeId} {cs cs' : Array Value} (h : Blk w g t cs) (h' : Blk w g t' cs') : t = t' := by
  unfold Blk at h h'
  rw [h] at h'
  injection h' with h'
  injection h'
section
variable {w w1 : World} {S : Nat → Prop} {g n n' : Nat} {D : List Int} {N N' : List Nd} {A A' : List Nat} {vd vn va vn' va' : Value}
theorem Mx.gd (m : Mx w S g D N A n vd vn va) {k : Nat} (hk : own vd k) : k ≠ g := by
  rintro rfl; obtain ⟨_, h⟩ := m.d.ty hk; exact absurd (h.ty_eq m.blk) (by decide)
theorem Mx.gn (m : Mx w S g D N A n vd vn va) {k : Nat} (hk : own vn k) : k ≠ g := by
  rintro rfl; obtain ⟨_, h⟩ := OwnK.ty m.n hk; exact absurd (h.ty_eq m.blk) (by decide)
theorem Mx.ga (m : Mx w S g D N A n vd vn va) {k : Nat} (hk : own va k) : k ≠ g := by
  rintro rfl; obtain ⟨_, h⟩ := m.a.ty hk; exact absurd (h.ty_eq m.blk) (by decide)
theorem Mx.dn (m : Mx w S g D N A n vd vn va) {k : Nat} (hk : own vd k) : ¬ own vn k := fun h => by
  obtain ⟨_, h1⟩ := OwnK.ty m.n h; obtain ⟨_, h2⟩ := m.d.ty hk; exact absurd (h1.ty_eq h2) (by decide)
theorem Mx.an (m : Mx w S g D N A n vd vn va) {k : Nat} (hk : own va k) : ¬ own vn k := fun h => by
  obtain ⟨_, h1⟩ := OwnK.ty m.n h; obtain ⟨_, h2⟩ := m.a.ty hk; exact absurd (h1.ty_eq h2) (by decide)
theorem Mx.da (m : Mx w S g D N A n vd vn va) {k : Nat} (hk : own vd k) : ¬ own va k := fun h => by
  obtain ⟨_, h1⟩ := m.a.ty h; obtain ⟨_, h2⟩ := m.d.ty hk; exact absurd (h1.ty_eq h2) (by decide)
/-- The nodes, appended to and stored back. -/
theorem Mx.appN (m : Mx w S g D N A n vd vn va) (hup : ∀ k, w.heap.size ≤ k → S k) (o : OwnR ndc 6 w1 108 vn' N') (h : Mod (own vn) w w1) (hx : Next w.heap.size vn vn') :
    Mx (w1.setCell ⟨g, 1, none⟩ vn') S g D N' A n vd vn' va ∧ Mod S w (w1.setCell ⟨g, 1, none⟩ vn') := by
  have hg := m.blk.lt
  have hn' : ∀ k, own vn' k → k ≠ g ∧ S k := fun k hk => by
    rcases hx with e | e
    · have : own vn k := by show vn.ownBlock = some k; rw [← e]; exact hk
      exact ⟨m.gn this, m.sn k this⟩
    · have := e k hk
      exact ⟨by omega, hup k this⟩
  have hs : Mod (fun k => k = g) w1 (w1.setCell ⟨g, 1, none⟩ vn') := setg_mod _ _ _ _
  refine ⟨⟨(m.blk.mod h (fun hk => m.gn hk rfl)).set_ 1 vn', (m.d.mod h (fun k hk => m.dn hk)).mod hs (fun k hk => m.gd hk), o.mod hs (fun k hk => (hn' k hk).1), (m.a.mod h (fun k hk => m.an hk)).mod hs (fun k hk => m.ga hk), m.sg, m.sd, fun k hk => (hn' k hk).2, m.sa⟩, ?_⟩
  exact h.trans hs (fun k _ hk => m.sn k hk) (fun k _ hk => hk ▸ m.sg)
/-- The arena, appended to and stored back. -/
theorem Mx.appA (m : Mx w S g D N A n vd vn va) (hup : ∀ k, w.heap.size ≤ k → S k) (o : Own w1 3 va' (A'.map nv)) (h : Mod (own va) w w1) (hx : Next w.heap.size va va') :
    Mx (w1.setCell ⟨g, 2, none⟩ va') S g D N A' n vd vn va' ∧ Mod S w (w1.setCell ⟨g, 2, none⟩ va') := by
  have hg := m.blk.lt
  have hn' : ∀ k, own va' k → k ≠ g ∧ S k := fun k hk => by
    rcases hx with e | e
    · have : own va k := by show va.ownBlock = some k; rw [← e]; exact hk
      exact ⟨m.ga this, m.sa k this⟩
    · have := e k hk
      exact ⟨by omega, hup k this⟩
  have hs : Mod (fun k => k = g) w1 (w1.setCell ⟨g, 2, none⟩ va') := setg_mod _ _ _ _
  refine ⟨⟨(m.blk.mod h (fun hk => m.ga hk rfl)).set_ 2 va', (m.d.mod h (fun k hk => m.da hk)).mod hs (fun k hk => m.gd hk), (m.n.mod h (fun k hk hk2 => m.an hk2 hk)).mod hs (fun k hk => m.gn hk), o.mod hs (fun k hk => (hn' k hk).1), m.sg, m.sd, m.sn, fun k hk => (hn' k hk).2⟩, ?_⟩
  exact h.trans hs (fun k _ hk => m.sa k hk) (fun k _ hk => hk ▸ m.sg)
/-- A cell of the arena. -/
theorem Mx.storeA {ga c j y : Nat} (m : Mx w S g D N A n vd vn (.slice (some ⟨ga, 0, none⟩) A.length c)) :
    Mx (w.setCell ⟨ga, j, none⟩ (nv y)) S g D N (A.set j y) n vd vn (.slice (some ⟨ga, 0, none⟩) A.length c) ∧ Mod S w (w.setCell ⟨ga, j, none⟩ (nv y)) := by
  have ho : own (.slice (some ⟨ga, 0, none⟩) A.length c) ga := rfl
  have hs : Mod (fun k => k = ga) w (w.setCell ⟨ga, j, none⟩ (nv y)) := setg_mod _ _ _ _
  refine ⟨⟨m.blk.mod hs (fun h => m.ga ho h.symm), m.d.mod hs (fun k hk e => m.da (e ▸ hk) ho), m.n.mod hs (fun k hk e => m.an ho (e ▸ hk)), ?_, m.sg, m.sd, m.sn, m.sa⟩, hs.mono (fun k _ e => e ▸ m.sa _ ho)⟩
  have := m.a.store (j := j) (nv y)
  rwa [← List.map_set] at this
/-- The size. -/
theorem Mx.size (m : Mx w S g D N A n vd vn va) : Mx (w.setCell ⟨g, 3, none⟩ (nv n')) S g D N A n' vd vn va ∧ Mod S w (w.setCell ⟨g, 3, none⟩ (nv n')) := by
  have hs : Mod (fun k => k = g) w (w.setCell ⟨g, 3, none⟩ (nv n')) := setg_mod _ _ _ _
  exact ⟨⟨m.blk.set_ 3 _, m.d.mod hs (fun k hk => m.gd hk), m.n.mod hs (fun k hk => m.gn hk), m.a.mod hs (fun k hk => m.ga hk), m.sg, m.sd, m.sn, m.sa⟩, hs.mono (fun k _ e => e ▸ m.sg)⟩
end

set_option maxHeartbeats 8000000 in
theorem grow_any {w : World} {S : Nat → Prop} {g n : Nat} {D : List Int} {N : List Nd} {A : List Nat} {vd vn va : Value} (m : Mx w S g D N A n vd vn va) (hup : ∀ k, w.heap.size ≤ k → S k) (c : Ce) {h : Nat} (hh : h ≤ 12) (hN : N.length ≤ 1000000) (hA : A.length ≤ 100000000) :
    Calls Try.prog 74 #[.pointer (some ⟨g, 0, none⟩), .agg (car c), .int .i64 (h : Nat)] w fun e w' => e = .returned (.int .i64 (N.length : Nat)) ∧ (∃ vn' va', Mx w' S g D (N ++ [⟨c, A.length, h⟩]) (A ++ List.replicate h 0) n vd vn' va') ∧ Mod S w w' := by
  have x0 : Ext w (w.alloc (.cells (car c) 23)) := (Mod.refl _ w).alloc _
  have B0 : Blk (w.alloc (.cells (car c) 23)) w.heap.size 23 (car c) := Blk.new w _ _
  have m0 := m.ext x0
  have hs0 : w.heap.size ≤ (w.alloc (.cells (car c) 23)).heap.size := x0.size
  obtain ⟨w0, hw0⟩ : ∃ w0, w0 = w.alloc (.cells (car c) 23) := ⟨_, rfl⟩
  rw [← hw0] at x0 B0 m0 hs0
  replace hw0 := Lib.hid hw0
  have q0 : Ext w0 w0.drew := (Mod.refl _ w0).drew
  have qa : Ext w0 (w0.alloc (.cells #[sv c.key, sv c.val, .bool c.del, .int .i64 c.seq, .int .i64 (A.length : Nat), .int .i64 (h : Nat)] 108)) := (Mod.refl _ w0).alloc _
  obtain ⟨Bn, cn, hvn, -⟩ := m0.n.rc.open_ ndc_len
  obtain ⟨Ba, ca, hva, -⟩ := m0.a.sl.open_
  have hc : ∀ {F : Nat → Prop} {wx : World}, Mod F w0 wx → (∀ k, F k → own vn k) → wx.cell? ⟨g, 1, none⟩ = some vn ∧ wx.cell? ⟨g, 2, none⟩ = some va ∧ wx.cell? ⟨w.heap.size, 0, none⟩ = some (sv c.key) ∧ wx.cell? ⟨w.heap.size, 1, none⟩ = some (sv c.val) ∧ wx.cell? ⟨w.heap.size, 2, none⟩ = some (.bool c.del) ∧ wx.cell? ⟨w.heap.size, 3, none⟩ = some (.int .i64 c.seq) ∧ wx.frozen? ⟨g, 1, none⟩ = false := fun hx hF => by
    have b1 := m0.blk.mod hx (fun h => m0.gn (hF _ h) rfl)
    have b2 := B0.mod hx (fun h => by have := m.n.lt (hF _ h); omega)
    exact ⟨b1.cell 1, b1.cell 2, b2.cell 0, b2.cell 1, b2.cell 2, b2.cell 3, b1.frozen 1⟩
  have oN : OwnR ndc 6 w0.drew 108 vn N := m0.n
  have hn1 : (N.length + 1) * 64 ≤ 140737488355328 := by omega
  replace hn1 := Lib.hid hn1
  go_enter Try.func74, Try.ntmps74
  go_upto_region 1 with fail
  rw [← hw0.out]
  go_cut [0, 2, 6] (fun s0 s2 s6 wx => s0 = .pointer (some ⟨g, 0, none⟩) ∧ s2 = .int .i64 (h : Nat) ∧ s6 = .int .i64 0 ∧ (∃ vn', Mx wx S g D (N ++ [⟨c, A.length, h⟩]) A n vd vn' va) ∧ Mod S w wx)
  case first =>
    subst hvn
    subst hva
    obtain ⟨c1, c2, d0, d1, d2, d3, f1⟩ := hc (Mod.refl (fun _ => False) w0) (fun _ h => h.elim)
    obtain ⟨a1, a2, e0, e1, e2, e3, fa1⟩ := hc qa (fun _ h => h.elim)
    go_region_law (first
      | (refine step_appR (x := (⟨c, A.length, h⟩ : Nd)) tyN ndc_len oN rfl (ndc_ok _) hn1.out rfl rfl (.tmp 11) (.tmp 20) rfl rfl rfl ?_; intro v1 w1 k1 k2 k3; obtain ⟨A1, z1, hv1⟩ := k1.rc.shape; subst hv1; have q1 : Mod (own (.slice Bn N.length cn)) w0 w1 := q0.trans k2 (fun _ _ h => h.elim) (fun _ _ h => h); obtain ⟨r1, r2, -, -, -, -, r3⟩ := hc q1 (fun _ h => h)))
    all_goals go_wp2_with fail
    all_goals go_meet
    all_goals (
      obtain ⟨m1, m2⟩ := m0.appN (fun k hk => hup k (by omega)) k1 q1 k3
      rw [List.length_append, List.length_singleton] at m1 m2
      exact ⟨rfl, rfl, rfl, ⟨_, m1⟩, x0.trans m2 (fun _ _ h => h.elim) (fun _ _ h => h)⟩)
  case rest =>
    obtain ⟨rfl, rfl, rfl, ⟨vn1, m1⟩, x1⟩ := hcut
    clear hc oN hvn hva B0 m0 q0 qa hs0 m
    obtain ⟨N1, hN1⟩ : ∃ N1, N1 = N ++ [(⟨c, A.length, h⟩ : Nd)] := ⟨_, rfl⟩
    rw [← hN1] at m1
    have hl1 : Hid (N1.length = N.length + 1) := Lib.hid (by rw [hN1]; simp)
    replace hN1 := Lib.hid hN1
    go_wp2_with fail
    go_loopw [25] (fun i wr => ∃ (k : Nat), k ≤ h ∧ i = .int .i64 (k : Nat) ∧ (∃ L va1, Mx wr S g D N1 L n vd vn1 va1 ∧ Hid (L = A ++ List.replicate k 0)) ∧ Mod S w wr) (fun i _ => h - (intOf i).toNat)
    case atStart => exact ⟨0, Nat.zero_le _, rfl, ⟨A, va, m1, Lib.hid (by simp)⟩, x1⟩
    case round =>
      clear m1 x1
      obtain ⟨k, hk, rfl, ⟨L, va1, m1, hL⟩, x1⟩ := hrel
      have hupr : ∀ k, wr.heap.size ≤ k → S k := fun k hk => hup k (by have := x1.size; omega)
      by_cases hlt : k < h
      case neg =>
        have hkh : k = h := by omega
        have hb : decide ((k : Int) < (h : Int)) = false := dfalse (by omega)
        obtain ⟨An, dn, hv, -⟩ := m1.n.rc.open_ ndc_len
        subst hv
        have b1 : _ = some _ := m1.blk.cell 1
        have hw : IntKind.i64.wrap ((N1.length : Int) - 1) = (N1.length : Int) - 1 := by rw [IntKind.wrap_i64]; have := hl1.out; omega
        go_wp2_with fail
        go_ret
        exact ⟨by have := hl1.out; rw [this]; simp, ⟨_, va1, by rw [hL.out, hkh, hN1.out] at m1; exact m1⟩, x1⟩
      have hb : decide ((k : Int) < (h : Int)) = true := dtrue (by omega)
      have hn2 : ((L.map nv).length + [Value.int .i64 0].length) * 8 ≤ 140737488355328 := by
        rw [List.length_map, hL.out, List.length_append, List.length_replicate]
        simp only [List.length_cons, List.length_nil]
        omega
      have b2 : _ = some _ := m1.blk.cell 2
      obtain ⟨Aa, da, hv, -⟩ := m1.a.sl.open_
      subst hv
      go_wp2_with ((with_reducible show wpList _ _ _ (⟨some 33, _, _, _, _, _⟩ :: _) _ _); refine wp_app tyI (m1.a.alloc _) (Sl.one _ _ _) (by simp [Value.oneCell']) rfl (.tmp 31) (.tmp 32) rfl rfl rfl hn2 ?_; intro v1 w1 k1 k2 k3; have o1 : Own w1 3 v1 ((L ++ [0]).map nv) := (by rw [List.map_append]; exact k1); obtain ⟨A1, c1, hv1⟩ := o1.shape; rw [List.length_map, List.length_append, List.length_singleton] at hv1; subst hv1; have bb := ((m1.blk.alloc (.cells #[.int .i64 0] 3)).mod k2 (fun h => m1.ga h rfl)); have b3 : _ = some _ := bb.cell 2; have b4 := bb.frozen 2)
      obtain ⟨m2, x2⟩ := m1.appA hupr o1 (((Mod.refl _ wr).alloc _).then_ k2 (fun _ _ h => h)) (k3.imp id (fun f => f.mono (by simp)))
      exact ⟨⟨k + 1, by omega, by go_num, ⟨L ++ [0], _, m2, Lib.hid (by rw [hL.out, List.append_assoc, ← List.replicate_succ'])⟩, x1.trans x2 (fun _ _ h => h) (fun _ _ h => h)⟩, by simp [intOf] <;> omega⟩
end Go.Proofs.Ytlfooppmdgddkaa
