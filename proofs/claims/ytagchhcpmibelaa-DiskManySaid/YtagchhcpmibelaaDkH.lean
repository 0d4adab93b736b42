/- disk: one file synced, removed, cut; read. -/
import Derived.Test.YtagchhcpmibelaaDkG
namespace Go.Proofs.Ytagchhcpmibelaa
open Go.RowKit Go.Maps Go.WideMaps
set_option maxRecDepth 100000

/-- S, and what is new since w. -/
abbrev Grow (S : Nat → Prop) (w : World) : Nat → Prop := fun k => S k ∨ w.heap.size ≤ k
def onF (d : Ds) (x : List UInt8) (f : Fi → Ds × Nat) : Ds × Nat :=
  if begD d [x] ≠ 0 then (d, begD d [x]) else match getF d.L x with
  | none => (d, 7)
  | some g => f g
def syncD (d : Ds) (x : List UInt8) : Ds × Nat := onF d x fun f => (doneD { d with L := putF d.L ⟨f.name, f.b, f.b.length⟩ }, 0)
def removeD (d : Ds) (x : List UInt8) : Ds × Nat := onF d x fun f => (doneD { d with L := delF d.L f.name }, 0)
def truncD (d : Ds) (x : List UInt8) (n : Int) : Ds × Nat := onF d x fun f => if n < 0 ∨ (f.b.length : Int) < n then (d, 1) else (doneD { d with L := putF d.L (cutF f n.toNat) }, 0)
theorem begD_left {d : Ds} {L : Tx} (h : begD d L = 0) (hf : d.fu = true) : 1 ≤ d.left := by
  unfold begD at h
  by_cases h1 : d.fu = true ∧ d.left = 0
  · rw [if_pos h1] at h; cases h
  · have : ¬ d.left = 0 := fun e => h1 ⟨hf, e⟩
    omega
theorem onF_err {d : Ds} {x : List UInt8} (f : Fi → Ds × Nat) (h : begD d [x] ≠ 0) : onF d x f = (d, begD d [x]) := by unfold onF; rw [if_pos h]
theorem onF_none {d : Ds} {x : List UInt8} (f : Fi → Ds × Nat) (h : begD d [x] = 0) (hx : getF d.L x = none) : onF d x f = (d, 7) := by unfold onF; rw [if_neg (by simpa using h), hx]
theorem onF_some {d : Ds} {x : List UInt8} {g : Fi} (f : Fi → Ds × Nat) (h : begD d [x] = 0) (hx : getF d.L x = some g) : onF d x f = f g := by unfold onF; rw [if_neg (by simpa using h), hx]
theorem n_ne0 {n : Nat} (h : n ≠ 0) : ((n : Int) != 0) = true := by rw [bne_iff_ne]; omega
section
variable {S T F : Nat → Prop} {w w' : World} {bd bm : Nat} {D : DataW Unit} {G : Lay} {d : Ds} {v : Value}
theorem Dk.grow (h : Dk S w v d) (w0 : World) : Dk (Grow S w0) w v d := h.mono fun _ _ h => .inl h
set_option maxHeartbeats 4000000 in
theorem sync_any (h : Dk S w v d) (x : List UInt8) :
    Calls Try.prog 67 #[v, sv x] w fun e w' => e = .returned (ev (syncD d x).2) ∧ Dk (Grow S w) w' v (syncD d x).1 ∧ Mod S w w' := by
  obtain ⟨bd, bm, D, G, rfl, h⟩ := h
  by_cases hb : begD d [x] = 0
  case neg =>
    have hc := find_err h x hb
    have hd : Dk S w (pv bd) d := ⟨bd, bm, D, G, rfl, h⟩
    have hn := n_ne0 hb
    rw [syncD, onF_err _ hb]
    clear h hb
    generalize begD d [x] = n at *
    go_enter Try.func67, Try.ntmps67
    go_wp2_with fail
    refine hc.mono ?_
    rintro e w1 ⟨rfl, x1⟩
    clear hc
    go_wp2_with fail
    go_ret
    exact ⟨rfl, (hd.ext x1).grow w, x1.mono fun _ _ h => h.elim⟩
  cases hx : getF d.L x with
  | none =>
    have hc := find_none h x hb hx
    have hd : Dk S w (pv bd) d := ⟨bd, bm, D, G, rfl, h⟩
    rw [syncD, onF_none _ hb hx]
    clear h hb hx
    go_enter Try.func67, Try.ntmps67
    go_wp2_with fail
    refine hc.mono ?_
    rintro e w1 ⟨rfl, x1⟩
    clear hc
    go_wp2_with fail
    go_ret
    exact ⟨rfl, (hd.ext x1).grow w, x1.mono fun _ _ h => h.elim⟩
  | some f =>
    have hf := getF_mem hx
    obtain rfl := getF_name hx
    have hc := find_some h hb hf
    rw [syncD, onF_some _ hb hx]
    have hlf := begD_left hb
    clear hb hx
    go_enter Try.func67, Try.ntmps67
    go_wp2_with fail
    refine hc.mono ?_
    rintro e w1 ⟨rfl, x1⟩
    have h1 := h.mod x1 (fun _ _ _ h => h)
    have hsz := x1.size
    obtain ⟨A, c, hv⟩ := (h1.fo f hf).shape
    rw [List.length_map] at hv
    have g0 : w1.cell? ⟨(G f.name).1, 0, none⟩ = some (.slice A f.b.length c) := by rw [← hv]; exact (h1.fb f hf).cell 0
    have g1 : w1.cell? ⟨(G f.name).1, 1, none⟩ = some (.int .i64 (f.last : Int)) := (h1.fb f hf).cell 1
    have z1 : w1.frozen? ⟨(G f.name).1, 1, none⟩ = false := (h1.fb f hf).frozen 1
    have hmg := setg_mod w1 (G f.name).1 1 (.int .i64 (f.b.length : Int))
    have hne : ¬ bd = (G f.name).1 := fun e => h1.bd_ne hf e.symm
    have hsum := (sumB_putF (f := ⟨f.name, f.b, f.b.length⟩) h.rise).1
    rw [show (⟨f.name, f.b, f.b.length⟩ : Fi).name = f.name from rfl, getF_of_mem h.rise hf] at hsum
    simp only [lenB] at hsum
    have hbk : Blk (w1.setCell ⟨(G f.name).1, 1, none⟩ (.int .i64 (f.b.length : Int))) bd 70 (dcells { d with L := putF d.L ⟨f.name, f.b, f.b.length⟩ } bm) := by
      have := h1.blk.far (p := ⟨(G f.name).1, 1, none⟩) hne (.int .i64 (f.b.length : Int))
      simp only [dcells, show sumB (putF d.L ⟨f.name, f.b, f.b.length⟩) = sumB d.L by omega] at this ⊢
      exact this
    have h2 := h1.file hf (u := (G f.name).2) (b := f.b) (last := f.b.length) (fu := d.fu) (left := d.left) hmg (fun k _ hk => .inr (.inl hk)) (.inl rfl) hbk ((h1.fb f hf).set_ 1 _) ((h1.fo f hf).mod hmg fun k hk e => (h1.own_ne hf hk).2.2 f hf e) (Nat.le_refl _) (Nat.add_le_add_right h.room _) h.lf
    have hcd := done_any h2 hlf
    have hS := (h.fs f hf).1
    have hSd := h.sd
    clear hc h h1 h2 hbk hsum hlf hv
    replace hmg := hmg
    generalize (G f.name).1 = g at *
    go_wp2_with fail
    refine hcd.mono ?_
    rintro e w3 ⟨rfl, h3, m3⟩
    clear hcd
    go_wp2_with fail
    go_ret
    refine ⟨rfl, ⟨bd, bm, D, _, rfl, h3.mono fun k _ hk => ?_⟩, ((x1.mono (G := S) fun _ _ h => h.elim).then_ hmg fun k _ hk => hk ▸ hS).then_ m3 fun k _ hk => hk ▸ hSd⟩
    rcases hk with hk | hk
    · exact .inl hk
    · exact .inr (Nat.le_trans hsz hk)
set_option maxHeartbeats 4000000 in
theorem remove_any (h : Dk S w v d) (x : List UInt8) :
    Calls Try.prog 68 #[v, sv x] w fun e w' => e = .returned (ev (removeD d x).2) ∧ Dk (Grow S w) w' v (removeD d x).1 ∧ Mod S w w' := by
  obtain ⟨bd, bm, D, G, rfl, h⟩ := h
  by_cases hb : begD d [x] = 0
  case neg =>
    have hc := find_err h x hb
    have hd : Dk S w (pv bd) d := ⟨bd, bm, D, G, rfl, h⟩
    have hn := n_ne0 hb
    rw [removeD, onF_err _ hb]
    clear h hb
    generalize begD d [x] = n at *
    go_enter Try.func68, Try.ntmps68
    go_wp2_with fail
    refine hc.mono ?_
    rintro e w1 ⟨rfl, x1⟩
    clear hc
    go_wp2_with fail
    go_ret
    exact ⟨rfl, (hd.ext x1).grow w, x1.mono fun _ _ h => h.elim⟩
  cases hx : getF d.L x with
  | none =>
    have hc := find_none h x hb hx
    have hd : Dk S w (pv bd) d := ⟨bd, bm, D, G, rfl, h⟩
    rw [removeD, onF_none _ hb hx]
    clear h hb hx
    go_enter Try.func68, Try.ntmps68
    go_wp2_with fail
    refine hc.mono ?_
    rintro e w1 ⟨rfl, x1⟩
    clear hc
    go_wp2_with fail
    go_ret
    exact ⟨rfl, (hd.ext x1).grow w, x1.mono fun _ _ h => h.elim⟩
  | some f =>
    have hf := getF_mem hx
    obtain rfl := getF_name hx
    have hc := find_some h hb hf
    rw [removeD, onF_some _ hb hx]
    have hlf := begD_left hb
    clear hb hx
    have hcd := fun (wx : World) (x1 : Ext w wx) => drop_some (h.mod x1 (fun _ _ _ h => h)) hf
    have hSd := h.sd
    have hSm := h.sm
    clear h
    go_enter Try.func68, Try.ntmps68
    go_wp2_with fail
    refine hc.mono ?_
    rintro e w1 ⟨rfl, x1⟩
    have hcd' := hcd w1 x1
    clear hc hcd
    go_wp2_with fail
    refine hcd'.mono ?_
    rintro e w2 ⟨rfl, h2, m2⟩
    have hcd := done_any h2 hlf
    clear hcd' h2 hlf
    go_wp2_with fail
    refine hcd.mono ?_
    rintro e w3 ⟨rfl, h3, m3⟩
    clear hcd
    go_wp2_with fail
    go_ret
    refine ⟨rfl, ⟨bd, bm, _, _, rfl, h3.mono fun k _ hk => .inl hk⟩, ((x1.mono (G := S) fun _ _ h => h.elim).then_ m2 fun k _ hk => hk.elim (fun e => e ▸ hSd) fun e => e ▸ hSm).then_ m3 fun k _ hk => hk ▸ hSd⟩
set_option maxHeartbeats 4000000 in
theorem trunc_any (h : Dk S w v d) (x : List UInt8) (n : Int) :
    Calls Try.prog 27 #[v, sv x, .int .i64 n] w fun e w' => e = .returned (ev (truncD d x n).2) ∧ Dk (Grow S w) w' v (truncD d x n).1 ∧ Mod S w w' := by
  obtain ⟨bd, bm, D, G, rfl, h⟩ := h
  by_cases hb : begD d [x] = 0
  case neg =>
    have hc := find_err h x hb
    have hd : Dk S w (pv bd) d := ⟨bd, bm, D, G, rfl, h⟩
    have hn := n_ne0 hb
    rw [truncD, onF_err _ hb]
    clear h hb
    generalize begD d [x] = n at *
    go_enter Try.func27, Try.ntmps27
    go_wp2_with fail
    refine hc.mono ?_
    rintro e w1 ⟨rfl, x1⟩
    clear hc
    go_wp2_with fail
    go_ret
    exact ⟨rfl, (hd.ext x1).grow w, x1.mono fun _ _ h => h.elim⟩
  cases hx : getF d.L x with
  | none =>
    have hc := find_none h x hb hx
    have hd : Dk S w (pv bd) d := ⟨bd, bm, D, G, rfl, h⟩
    rw [truncD, onF_none _ hb hx]
    clear h hb hx
    go_enter Try.func27, Try.ntmps27
    go_wp2_with fail
    refine hc.mono ?_
    rintro e w1 ⟨rfl, x1⟩
    clear hc
    go_wp2_with fail
    go_ret
    exact ⟨rfl, (hd.ext x1).grow w, x1.mono fun _ _ h => h.elim⟩
  | some f =>
    have hf := getF_mem hx
    obtain rfl := getF_name hx
    have hc := find_some h hb hf
    rw [truncD, onF_some _ hb hx]
    have hlf := begD_left hb
    clear hb hx
    have hSd := h.sd
    have hSg := (h.fs f hf).1
    by_cases hn : n < 0 ∨ (f.b.length : Int) < n
    · have hd : Dk S w (pv bd) d := ⟨bd, bm, D, G, rfl, h⟩
      rw [if_pos hn]
      have hg0 : ∀ wx, Ext w wx → ∃ A c, wx.cell? ⟨(G f.name).1, 0, none⟩ = some (.slice A f.b.length c) := fun wx x1 => by
        have h1 := h.mod x1 (fun _ _ _ h => h)
        obtain ⟨A, c, hv⟩ := (h1.fo f hf).shape
        rw [List.length_map] at hv
        exact ⟨A, c, by rw [← hv]; exact (h1.fb f hf).cell 0⟩
      clear h hSd hSg hlf
      go_enter Try.func27, Try.ntmps27
      go_wp2_with fail
      refine hc.mono ?_
      rintro e w1 ⟨rfl, x1⟩
      obtain ⟨A, c, g0⟩ := hg0 w1 x1
      clear hc hg0
      generalize (G f.name).1 = g at *
      rcases hn with hn | hn
      · have hb1 : decide (n < 0) = true := dtrue hn
        go_wp2_with fail
        go_ret
        exact ⟨rfl, (hd.ext x1).grow w, x1.mono fun _ _ h => h.elim⟩
      · have hb1 : decide (n < 0) = false := dfalse (by omega)
        have hb2 : decide ((f.b.length : Int) < n) = true := dtrue hn
        go_wp2_with fail
        go_ret
        exact ⟨rfl, (hd.ext x1).grow w, x1.mono fun _ _ h => h.elim⟩
    rw [if_neg hn]
    obtain ⟨m, rfl⟩ := Int.eq_ofNat_of_zero_le (show 0 ≤ n by omega)
    rw [Int.toNat_natCast]
    have hcut := fun (wx : World) (x1 : Ext w wx) => cut_any3 (h.mod x1 (fun _ _ _ h => h)) hf (n := m) (by omega)
    have hg0 : ∀ wx, Ext w wx → ∃ A c, wx.cell? ⟨(G f.name).1, 0, none⟩ = some (.slice A f.b.length c) := fun wx x1 => by
      have h1 := h.mod x1 (fun _ _ _ h => h)
      obtain ⟨A, c, hv⟩ := (h1.fo f hf).shape
      rw [List.length_map] at hv
      exact ⟨A, c, by rw [← hv]; exact (h1.fb f hf).cell 0⟩
    have hb1 : decide ((m : Int) < 0) = false := dfalse (by omega)
    have hb2 : decide (f.b.length < m) = false := dfalse (by omega)
    clear h
    go_enter Try.func27, Try.ntmps27
    go_wp2_with fail
    refine hc.mono ?_
    rintro e w1 ⟨rfl, x1⟩
    obtain ⟨A, c, g0⟩ := hg0 w1 x1
    have hcut' := hcut w1 x1
    have hsz := x1.size
    clear hc hg0 hcut hn
    go_wp2_with fail
    refine hcut'.mono ?_
    rintro e w2 ⟨rfl, u, h2, m2⟩
    have hcd := done_any h2 hlf
    clear hcut' h2 hlf
    go_wp2_with fail
    refine hcd.mono ?_
    rintro e w3 ⟨rfl, h3, m3⟩
    clear hcd
    go_wp2_with fail
    go_ret
    refine ⟨rfl, ⟨bd, bm, _, _, rfl, h3.mono fun k _ hk => ?_⟩, ((x1.mono (G := S) fun _ _ h => h.elim).then_ m2 fun k _ hk => hk.elim (fun e => e ▸ hSd) fun e => e ▸ hSg).then_ m3 fun k _ hk => hk ▸ hSd⟩
    rcases hk with hk | hk
    · exact .inl hk
    · exact .inr (Nat.le_trans hsz hk)
end
end Go.Proofs.Ytagchhcpmibelaa
