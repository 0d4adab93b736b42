/- sorting files: a row and a single file become one row. -/
import Derived.Test.YtmjkgibeljbloaaLsD
namespace Go.Proofs.Ytmjkgibeljbloaa
open Go.RowKit
set_option maxRecDepth 100000

/-- A search by halves: below s it holds, from t on not. -/
structure Hv (Q : Nat → Prop) (lo hi s t : Nat) : Prop where
  l1 : lo ≤ s
  l2 : s ≤ t
  l3 : t ≤ hi
  yes : ∀ u, lo ≤ u → u < s → Q u
  no : ∀ u, t ≤ u → u < hi → ¬ Q u
theorem Hv.start (Q : Nat → Prop) {lo hi : Nat} (h : lo ≤ hi) : Hv Q lo hi lo hi := ⟨Nat.le_refl _, h, Nat.le_refl _, fun u h1 h2 => by omega, fun u h1 h2 => by omega⟩
abbrev Dn (Q : Nat → Prop) (lo hi : Nat) : Prop := ∀ u v, lo ≤ u → u ≤ v → v < hi → Q v → Q u
theorem Hv.up {Q : Nat → Prop} {lo hi s t : Nat} (h : Hv Q lo hi s t) (hm : Dn Q lo hi) {c : Nat} (h1 : s ≤ c) (h2 : c < t) (hq : Q c) : Hv Q lo hi (c + 1) t :=
  ⟨by have := h.l1; omega, by omega, h.l3, fun u k1 k2 => hm u c k1 (by omega) (by have := h.l3; omega) hq, h.no⟩
theorem Hv.down {Q : Nat → Prop} {lo hi s t : Nat} (h : Hv Q lo hi s t) (hm : Dn Q lo hi) {c : Nat} (h1 : s ≤ c) (h2 : c < t) (hq : ¬ Q c) : Hv Q lo hi s c :=
  ⟨h.l1, h1, by have := h.l3; omega, h.yes, fun u k1 k2 hu => hq (hm c u (by have := h.l1; omega) k1 k2 hu)⟩
/-- x on its way through B. -/
def mvD (X B Z : List Fl) (x : Fl) (u : Nat) : List Fl := X ++ B.take u ++ x :: (B.drop u ++ Z)
theorem mv_sw (X B Z : List Fl) (x : Fl) {u : Nat} (hu : u < B.length) :
    Sw (mvD X B Z x u) (X.length + u) (X.length + u + 1) x B[u] (mvD X B Z x (u + 1)) ∧ Sw (mvD X B Z x (u + 1)) (X.length + u) (X.length + u + 1) B[u] x (mvD X B Z x u) := by
  have e1 : (X ++ B.take u).length = X.length + u := by rw [List.length_append, List.length_take]; omega
  have m1 : mvD X B Z x u = X ++ B.take u ++ x :: ([] ++ B[u] :: (B.drop (u + 1) ++ Z)) := by
    unfold mvD
    rw [List.drop_eq_getElem_cons hu]
    rfl
  have m2 : mvD X B Z x (u + 1) = X ++ B.take u ++ B[u] :: ([] ++ x :: (B.drop (u + 1) ++ Z)) := by
    unfold mvD
    rw [List.take_succ_eq_append_getElem hu]
    simp only [List.append_assoc, List.cons_append, List.nil_append]
  have h1 := Sw.of (X ++ B.take u) [] (B.drop (u + 1) ++ Z) x B[u]
  have h2 := Sw.of (X ++ B.take u) [] (B.drop (u + 1) ++ Z) B[u] x
  rw [e1, List.length_nil, Nat.add_zero] at h1 h2
  rw [m1, m2]
  exact ⟨h1, h2⟩
theorem mv_len (X B Z : List Fl) (x : Fl) {u : Nat} (hu : u ≤ B.length) : (mvD X B Z x u).length = X.length + B.length + 1 + Z.length := by
  unfold mvD
  simp only [List.length_append, List.length_cons, List.length_take, List.length_drop]
  omega
theorem mv_srt {B : List Fl} {x : Fl} {s : Nat} (hB : Srt B) (h1 : ∀ y ∈ B.take s, leF y x) (h2 : ∀ y ∈ B.drop s, leF x y) : Srt (B.take s ++ x :: B.drop s) := by
  have hB' := hB
  rw [← List.take_append_drop s B] at hB'
  obtain ⟨p1, p2, p3⟩ := List.pairwise_append.1 hB'
  refine Srt.app p1 (List.pairwise_cons.2 ⟨h2, p2⟩) ?_
  intro y hy z hz
  rcases List.mem_cons.1 hz with rfl | hz
  · exact h1 y hy
  · exact p3 y hy z hz
theorem mv_perm (B : List Fl) (x : Fl) (s : Nat) : (B.take s ++ x :: B.drop s).Perm (x :: B) := by
  have := List.perm_middle (a := x) (l₁ := B.take s) (l₂ := B.drop s)
  rwa [List.take_append_drop] at this
theorem mem_take_get {B : List Fl} {y : Fl} {s : Nat} (h : y ∈ B.take s) : ∃ u, u < s ∧ B[u]? = some y := by
  obtain ⟨u, hu, e⟩ := List.mem_iff_getElem.1 h
  rw [List.length_take] at hu
  refine ⟨u, by omega, ?_⟩
  rw [← e, List.getElem_take, List.getElem?_eq_getElem]
theorem mem_drop_get {B : List Fl} {y : Fl} {s : Nat} (h : y ∈ B.drop s) : ∃ u, s ≤ u ∧ u < B.length ∧ B[u]? = some y := by
  obtain ⟨u, hu, e⟩ := List.mem_iff_getElem.1 h
  rw [List.length_drop] at hu
  refine ⟨s + u, by omega, by omega, ?_⟩
  rw [← e, List.getElem_drop, List.getElem?_eq_getElem]
/-- The files from m on lie in B. -/
theorem at_B {X Z B : List Fl} {x : Fl} {m u : Nat} (hm : m = X.length + 1) (hu : u < B.length) : (X ++ x :: (B ++ Z))[m + u]? = B[u]? := by
  rw [hm, List.getElem?_append_right (by omega), show X.length + 1 + u - X.length = u + 1 from by omega, List.getElem?_cons_succ, List.getElem?_append_left hu]
theorem at_B' {X Z B : List Fl} {x : Fl} {m u : Nat} (hm : m = X.length + 1) (h : m ≤ u) (hu : u - m < B.length) : (X ++ x :: (B ++ Z))[u]? = B[u - m]? := by
  have := at_B (X := X) (Z := Z) (x := x) hm hu
  rwa [show m + (u - m) = u from by omega] at this

set_option maxHeartbeats 32000000 in
theorem merge1_any {w : World} {g n c a m b : Nat} {X B Z : List Fl} {x : Fl} (h : OwnF w (slF g n c) (X ++ x :: (B ++ Z))) (hn : n = (X ++ x :: (B ++ Z)).length) (hl : n ≤ 1000000)
    (ha : a = X.length) (hm : m = a + 1) (hb : b = m + B.length) (hB : Srt B) :
    Calls Try.prog 71 #[slF g n c, .int .i64 (a : Nat), .int .i64 (m : Nat), .int .i64 (b : Nat), cF] w fun e w' => e = .returned (.tuple #[]) ∧ ∃ S, S.Perm (x :: B) ∧ Srt S ∧ OwnF w' (slF g n c) (X ++ S ++ Z) ∧ Mod (fun k => k = g) w w' := by
  have hn' : b + Z.length = n := by rw [hn]; simp only [List.length_append, List.length_cons]; omega
  have u1 : IntKind.i64.wrap ((m : Int) - (a : Int)) = 1 := by rw [IntKind.wrap_i64]; omega
  have u1' : (m : Int) - (a : Int) = 1 := by omega
  obtain ⟨D, hD⟩ : ∃ D, D = X ++ x :: (B ++ Z) := ⟨_, rfl⟩
  rw [← hD] at h hn
  obtain ⟨Q, hQ⟩ : ∃ Q : Nat → Prop, Q = fun c => ∃ y, D[c]? = some y ∧ aheadF y x := ⟨_, rfl⟩
  have hdn : Dn Q m b := by
    intro u v k1 k2 k3 k4
    rw [hQ] at k4 ⊢
    obtain ⟨y, hy, ay⟩ := k4
    have hv : v - m < B.length := by omega
    have hu : u - m < B.length := by omega
    rw [hD, at_B' (m := m) (by omega) (by omega) hv] at hy
    obtain ⟨_, rfl⟩ := List.getElem?_eq_some_iff.1 hy
    refine ⟨B[u - m], ?_, hB.ahead (by omega) hv ay⟩
    rw [hD, at_B' (m := m) (by omega) (by omega) hu]
    exact List.getElem?_eq_getElem hu
  have hbn : b ≤ n := by omega
  have han : a < m := by omega
  have hmb : m ≤ b := by omega
  have hxa : Hid (D[a]? = some x) := Lib.hid (by rw [hD, ha, List.getElem?_append_right (Nat.le_refl _), Nat.sub_self]; rfl)
  have hDn : Hid (D.length = n) := Lib.hid hn.symm
  have iA : IntKind.i64.wrap (a : Int) = (a : Int) := by rw [IntKind.wrap_i64]; omega
  have a0 : (0 : Int) ≤ (a : Int) := by omega
  have a1 : (a : Int) < (n : Int) := by omega
  replace hQ := Lib.hid hQ
  replace hD := Lib.hid hD
  replace ha := Lib.hid ha
  replace hm := Lib.hid hm
  replace hb := Lib.hid hb
  replace hn' := Lib.hid hn'
  clear hn
  go_enter Try.func71, Try.ntmps71
  go_wp2_with fail
  go_loopw [10, 11] (fun iv jv wr => ∃ (i j : Nat), iv = .int .i64 i ∧ jv = .int .i64 j ∧ Hid (Hv Q m b i j) ∧ Ext w wr) (fun i j _ => (intOf j).toNat - (intOf i).toNat)
  case atStart => exact ⟨m, b, rfl, rfl, Lib.hid (Hv.start Q hmb), Mod.refl _ _⟩
  case round =>
    obtain ⟨i, j, rfl, rfl, hbs, hx⟩ := hrel
    have k1 := hbs.out.l1
    have k2 := hbs.out.l2
    have k3 := hbs.out.l3
    by_cases hij : i < j
    case pos =>
      have hbl : decide ((i : Int) < (j : Int)) = true := dtrue (by omega)
      have hbl' : decide (i < j) = true := dtrue hij
      obtain ⟨hh, hhv⟩ : ∃ hh, hh = (i + j) / 2 := ⟨_, rfl⟩
      have hh1 : i ≤ hh := by omega
      have hh2 : hh < j := by omega
      have v1 : IntKind.i64.wrap ((i : Int) + (j : Int)) = ((i + j : Nat) : Int) := by rw [IntKind.wrap_i64]; omega
      have v1' : (i : Int) + (j : Int) = ((i + j : Nat) : Int) := by omega
      have v2 : IntKind.u64.wrap ((i + j : Nat) : Int) = ((i + j : Nat) : Int) := by rw [IntKind.wrap_u64]; omega
      have v3 : ((i + j : Nat) : Int) / 2 = (hh : Int) := by omega
      have v4 : IntKind.i64.wrap (hh : Int) = (hh : Int) := by rw [IntKind.wrap_i64]; omega
      have h0 : (0 : Int) ≤ (hh : Int) := by omega
      have h1 : (hh : Int) < (n : Int) := by omega
      generalize hij2 : i + j = ij at *
      replace hhv := Lib.hid hhv
      replace hij2 := Lib.hid hij2
      have v5 : IntKind.i64.wrap ((hh : Int) + 1) = ((hh + 1 : Nat) : Int) := by rw [IntKind.wrap_i64]; omega
      have v5' : (hh : Int) + 1 = ((hh + 1 : Nat) : Int) := by omega
      obtain ⟨h2, hh3⟩ : ∃ h2, h2 = hh + 1 := ⟨_, rfl⟩
      rw [← hh3] at v5 v5'
      have hd1 : j - h2 < j - i := by omega
      have hd2 : hh - i < j - i := by omega
      have hlh : hh < D.length := by have := hDn.out; omega
      obtain ⟨y, hy⟩ : ∃ y, D[hh]? = some y := ⟨D[hh], List.getElem?_eq_getElem hlh⟩
      have hq : Q hh ↔ aheadF y x := by
        rw [hQ.out]
        constructor
        · rintro ⟨z, hz, k⟩; rw [hy] at hz; cases hz; exact k
        · exact fun k => ⟨y, hy, k⟩
      have hbk : ∀ {wx : World}, Ext wr wx → wx.cell? ⟨g, hh * 5, none⟩ = some (.int .i64 y.id) ∧ wx.cell? ⟨g, hh * 5 + 1, none⟩ = some (.int .i64 y.lev) ∧ wx.cell? ⟨g, hh * 5 + 2, none⟩ = some (.int .i64 y.size) ∧ wx.cell? ⟨g, hh * 5 + 3, none⟩ = some (sv y.first) ∧ wx.cell? ⟨g, hh * 5 + 4, none⟩ = some (sv y.last) ∧ wx.cell? ⟨g, a * 5, none⟩ = some (.int .i64 x.id) ∧ wx.cell? ⟨g, a * 5 + 1, none⟩ = some (.int .i64 x.lev) ∧ wx.cell? ⟨g, a * 5 + 2, none⟩ = some (.int .i64 x.size) ∧ wx.cell? ⟨g, a * 5 + 3, none⟩ = some (sv x.first) ∧ wx.cell? ⟨g, a * 5 + 4, none⟩ = some (sv x.last) := by
        intro wx hxx
        have o : OwnF wx (slF g n c) D := OwnR.ext h (ext_trans hx hxx)
        obtain ⟨c0, c1, c2, c3, c4⟩ := OwnF.cellsp o hy
        obtain ⟨d0, d1, d2, d3, d4⟩ := OwnF.cellsp o hxa.out
        exact ⟨c0, c1, c2, c3, c4, d0, d1, d2, d3, d4⟩
      have hcmp := fun wx => order_any (w := wx) y x
      have hlt2 := ordI_lt y x
      have hr0 : Ext wr wr.drew := (Mod.refl _ wr).drew
      replace hh3 := Lib.hid hh3
      by_cases hah : aheadF y x
      case neg =>
        have hlt3 : decide (ordI y x < 0) = false := hlt2.trans (dfalse hah)
        have hb2 := Lib.hid (hbs.out.down hdn hh1 hh2 (fun k => hah (hq.1 k)))
        clear hlt2 hah hq hbs
        go_wp2_with fail
        refine wp_region_held_drew (S := fun wx => wx.cell? ⟨g, hh * 5, none⟩ = some (.int .i64 y.id) ∧ wx.cell? ⟨g, hh * 5 + 1, none⟩ = some (.int .i64 y.lev) ∧ wx.cell? ⟨g, hh * 5 + 2, none⟩ = some (.int .i64 y.size) ∧ wx.cell? ⟨g, hh * 5 + 3, none⟩ = some (sv y.first) ∧ wx.cell? ⟨g, hh * 5 + 4, none⟩ = some (sv y.last) ∧ wx.cell? ⟨g, a * 5, none⟩ = some (.int .i64 x.id) ∧ wx.cell? ⟨g, a * 5 + 1, none⟩ = some (.int .i64 x.lev) ∧ wx.cell? ⟨g, a * 5 + 2, none⟩ = some (.int .i64 x.size) ∧ wx.cell? ⟨g, a * 5 + 3, none⟩ = some (sv x.first) ∧ wx.cell? ⟨g, a * 5 + 4, none⟩ = some (sv x.last)) (by kernel_rfl) (hbk hr0) (fun hH => ?_)
        (refine wpAnyH_take (i := 0) (oi := ⟨_, _, _, _, _, _⟩) (v := ?tv1) rfl (by kernel_rfl) (by kernel_rfl) (by kernel_rfl) (fun _ _ _ h => h) (Or.inl ⟨by kernel_rfl, ?hy1⟩) hH ?rs1; (case hy1 => (intro wx hSw; (try dsimp only at hSw); go_simp; try with_reducible rfl)); try simp only [Act.put, List.setIfInBounds_toArray, List.set_cons_zero, List.set_cons_succ]; try simp only [List.getElem_toArray, List.getElem_cons_succ, List.getElem_cons_zero])
        (refine wpAnyH_take (i := 1) (oi := ⟨_, _, _, _, _, _⟩) (v := ?tv2) rfl (by kernel_rfl) (by kernel_rfl) (by kernel_rfl) (fun _ _ _ h => h) (Or.inl ⟨by kernel_rfl, ?hy2⟩) hH ?rs2; (case hy2 => (intro wx hSw; (try dsimp only at hSw); go_simp; try with_reducible rfl)); try simp only [Act.put, List.setIfInBounds_toArray, List.set_cons_zero, List.set_cons_succ]; try simp only [List.getElem_toArray, List.getElem_cons_succ, List.getElem_cons_zero])
        (refine wpAnyH_take (i := 2) (oi := ⟨_, _, _, _, _, _⟩) (v := ?tv3) rfl (by kernel_rfl) (by kernel_rfl) (by kernel_rfl) (fun _ _ _ h => h) (Or.inl ⟨by kernel_rfl, ?hy3⟩) hH ?rs3; (case hy3 => (intro wx hSw; (try dsimp only at hSw); go_simp; try with_reducible rfl)); try simp only [Act.put, List.setIfInBounds_toArray, List.set_cons_zero, List.set_cons_succ]; try simp only [List.getElem_toArray, List.getElem_cons_succ, List.getElem_cons_zero])
        (refine wpAnyH_take (i := 3) (oi := ⟨_, _, _, _, _, _⟩) (v := ?tv4) rfl (by kernel_rfl) (by kernel_rfl) (by kernel_rfl) (fun _ _ _ h => h) (Or.inl ⟨by kernel_rfl, ?hy4⟩) hH ?rs4; (case hy4 => (intro wx hSw; (try dsimp only at hSw); go_simp; try with_reducible rfl)); try simp only [Act.put, List.setIfInBounds_toArray, List.set_cons_zero, List.set_cons_succ]; try simp only [List.getElem_toArray, List.getElem_cons_succ, List.getElem_cons_zero])
        (refine wpAnyH_take (i := 4) (oi := ⟨_, _, _, _, _, _⟩) (v := ?tv5) rfl (by kernel_rfl) (by kernel_rfl) (by kernel_rfl) (fun _ _ _ h => h) (Or.inl ⟨by kernel_rfl, ?hy5⟩) hH ?rs5; (case hy5 => (intro wx hSw; (try dsimp only at hSw); go_simp; try with_reducible rfl)); try simp only [Act.put, List.setIfInBounds_toArray, List.set_cons_zero, List.set_cons_succ]; try simp only [List.getElem_toArray, List.getElem_cons_succ, List.getElem_cons_zero])
        (refine wpAnyH_take (i := 5) (oi := ⟨_, _, _, _, _, _⟩) (v := ?tv6) rfl (by kernel_rfl) (by kernel_rfl) (by kernel_rfl) (fun _ _ _ h => h) (Or.inl ⟨by kernel_rfl, ?hy6⟩) hH ?rs6; (case hy6 => (intro wx hSw; (try dsimp only at hSw); go_simp; try with_reducible rfl)); try simp only [Act.put, List.setIfInBounds_toArray, List.set_cons_zero, List.set_cons_succ]; try simp only [List.getElem_toArray, List.getElem_cons_succ, List.getElem_cons_zero])
        (refine wpAnyH_take (i := 6) (oi := ⟨_, _, _, _, _, _⟩) (v := ?tv7) rfl (by kernel_rfl) (by kernel_rfl) (by kernel_rfl) (fun _ _ _ h => h) (Or.inl ⟨by kernel_rfl, ?hy7⟩) hH ?rs7; (case hy7 => (intro wx hSw; (try dsimp only at hSw); go_simp; try with_reducible rfl)); try simp only [Act.put, List.setIfInBounds_toArray, List.set_cons_zero, List.set_cons_succ]; try simp only [List.getElem_toArray, List.getElem_cons_succ, List.getElem_cons_zero])
        (refine wpAnyH_take (i := 7) (oi := ⟨_, _, _, _, _, _⟩) (v := ?tv8) rfl (by kernel_rfl) (by kernel_rfl) (by kernel_rfl) (fun _ _ _ h => h) (Or.inl ⟨by kernel_rfl, ?hy8⟩) hH ?rs8; (case hy8 => (intro wx hSw; (try dsimp only at hSw); go_simp; try with_reducible rfl)); try simp only [Act.put, List.setIfInBounds_toArray, List.set_cons_zero, List.set_cons_succ]; try simp only [List.getElem_toArray, List.getElem_cons_succ, List.getElem_cons_zero])
        (refine wpAnyH_take (i := 8) (oi := ⟨_, _, _, _, _, _⟩) (v := ?tv9) rfl (by kernel_rfl) (by kernel_rfl) (by kernel_rfl) (fun _ _ _ h => h) (Or.inl ⟨by kernel_rfl, ?hy9⟩) hH ?rs9; (case hy9 => (intro wx hSw; (try dsimp only at hSw); go_simp; try with_reducible rfl)); try simp only [Act.put, List.setIfInBounds_toArray, List.set_cons_zero, List.set_cons_succ]; try simp only [List.getElem_toArray, List.getElem_cons_succ, List.getElem_cons_zero])
        (refine wpAnyH_ready (rs := [9]) (by kernel_rfl) (by simp) ?_; refine AllReadyH.cons rfl (fun K hK => ?_) AllReadyH.nil; go_simp)
        refine (hcmp _).mono ?_
        rintro e wa ⟨rfl, xa⟩
        have q1 := ext_trans hr0 xa
        (go_wp2_with fail; refine hK.out _ _ (hbk q1) (fun hH => ?_); clear hK K; try simp only [Act.put, List.setIfInBounds_toArray, List.set_cons_zero, List.set_cons_succ]; try simp only [List.getElem_toArray, List.getElem_cons_succ, List.getElem_cons_zero])
        (refine wpAnyH_take (i := 10) (oi := ⟨_, _, _, _, _, _⟩) (v := ?tv10) rfl (by kernel_rfl) (by kernel_rfl) (by kernel_rfl) (fun _ _ _ h => h) (Or.inl ⟨by kernel_rfl, ?hy10⟩) hH ?rs10; (case hy10 => (intro wx hSw; (try dsimp only at hSw); go_simp; try with_reducible rfl)); try simp only [Act.put, List.setIfInBounds_toArray, List.set_cons_zero, List.set_cons_succ]; try simp only [List.getElem_toArray, List.getElem_cons_succ, List.getElem_cons_zero])
        refine wpAnyH_done (by kernel_rfl) ?_ _
        go_wp2_with fail
        exact ⟨⟨i, hh, by go_num, by go_num, hb2, ext_trans hx q1⟩, by simp [intOf] <;> omega⟩
      have hlt3 : decide (ordI y x < 0) = true := hlt2.trans (dtrue hah)
      have hb2 := Lib.hid (hh3.out ▸ hbs.out.up hdn hh1 hh2 (hq.2 hah))
      clear hlt2 hah hq hbs
      go_wp2_with fail
      refine wp_region_held_drew (S := fun wx => wx.cell? ⟨g, hh * 5, none⟩ = some (.int .i64 y.id) ∧ wx.cell? ⟨g, hh * 5 + 1, none⟩ = some (.int .i64 y.lev) ∧ wx.cell? ⟨g, hh * 5 + 2, none⟩ = some (.int .i64 y.size) ∧ wx.cell? ⟨g, hh * 5 + 3, none⟩ = some (sv y.first) ∧ wx.cell? ⟨g, hh * 5 + 4, none⟩ = some (sv y.last) ∧ wx.cell? ⟨g, a * 5, none⟩ = some (.int .i64 x.id) ∧ wx.cell? ⟨g, a * 5 + 1, none⟩ = some (.int .i64 x.lev) ∧ wx.cell? ⟨g, a * 5 + 2, none⟩ = some (.int .i64 x.size) ∧ wx.cell? ⟨g, a * 5 + 3, none⟩ = some (sv x.first) ∧ wx.cell? ⟨g, a * 5 + 4, none⟩ = some (sv x.last)) (by kernel_rfl) (hbk hr0) (fun hH => ?_)
      (refine wpAnyH_take (i := 0) (oi := ⟨_, _, _, _, _, _⟩) (v := ?tv11) rfl (by kernel_rfl) (by kernel_rfl) (by kernel_rfl) (fun _ _ _ h => h) (Or.inl ⟨by kernel_rfl, ?hy11⟩) hH ?rs11; (case hy11 => (intro wx hSw; (try dsimp only at hSw); go_simp; try with_reducible rfl)); try simp only [Act.put, List.setIfInBounds_toArray, List.set_cons_zero, List.set_cons_succ]; try simp only [List.getElem_toArray, List.getElem_cons_succ, List.getElem_cons_zero])
      (refine wpAnyH_take (i := 1) (oi := ⟨_, _, _, _, _, _⟩) (v := ?tv12) rfl (by kernel_rfl) (by kernel_rfl) (by kernel_rfl) (fun _ _ _ h => h) (Or.inl ⟨by kernel_rfl, ?hy12⟩) hH ?rs12; (case hy12 => (intro wx hSw; (try dsimp only at hSw); go_simp; try with_reducible rfl)); try simp only [Act.put, List.setIfInBounds_toArray, List.set_cons_zero, List.set_cons_succ]; try simp only [List.getElem_toArray, List.getElem_cons_succ, List.getElem_cons_zero])
      (refine wpAnyH_take (i := 2) (oi := ⟨_, _, _, _, _, _⟩) (v := ?tv13) rfl (by kernel_rfl) (by kernel_rfl) (by kernel_rfl) (fun _ _ _ h => h) (Or.inl ⟨by kernel_rfl, ?hy13⟩) hH ?rs13; (case hy13 => (intro wx hSw; (try dsimp only at hSw); go_simp; try with_reducible rfl)); try simp only [Act.put, List.setIfInBounds_toArray, List.set_cons_zero, List.set_cons_succ]; try simp only [List.getElem_toArray, List.getElem_cons_succ, List.getElem_cons_zero])
      (refine wpAnyH_take (i := 3) (oi := ⟨_, _, _, _, _, _⟩) (v := ?tv14) rfl (by kernel_rfl) (by kernel_rfl) (by kernel_rfl) (fun _ _ _ h => h) (Or.inl ⟨by kernel_rfl, ?hy14⟩) hH ?rs14; (case hy14 => (intro wx hSw; (try dsimp only at hSw); go_simp; try with_reducible rfl)); try simp only [Act.put, List.setIfInBounds_toArray, List.set_cons_zero, List.set_cons_succ]; try simp only [List.getElem_toArray, List.getElem_cons_succ, List.getElem_cons_zero])
      (refine wpAnyH_take (i := 4) (oi := ⟨_, _, _, _, _, _⟩) (v := ?tv15) rfl (by kernel_rfl) (by kernel_rfl) (by kernel_rfl) (fun _ _ _ h => h) (Or.inl ⟨by kernel_rfl, ?hy15⟩) hH ?rs15; (case hy15 => (intro wx hSw; (try dsimp only at hSw); go_simp; try with_reducible rfl)); try simp only [Act.put, List.setIfInBounds_toArray, List.set_cons_zero, List.set_cons_succ]; try simp only [List.getElem_toArray, List.getElem_cons_succ, List.getElem_cons_zero])
      (refine wpAnyH_take (i := 5) (oi := ⟨_, _, _, _, _, _⟩) (v := ?tv16) rfl (by kernel_rfl) (by kernel_rfl) (by kernel_rfl) (fun _ _ _ h => h) (Or.inl ⟨by kernel_rfl, ?hy16⟩) hH ?rs16; (case hy16 => (intro wx hSw; (try dsimp only at hSw); go_simp; try with_reducible rfl)); try simp only [Act.put, List.setIfInBounds_toArray, List.set_cons_zero, List.set_cons_succ]; try simp only [List.getElem_toArray, List.getElem_cons_succ, List.getElem_cons_zero])
      (refine wpAnyH_take (i := 6) (oi := ⟨_, _, _, _, _, _⟩) (v := ?tv17) rfl (by kernel_rfl) (by kernel_rfl) (by kernel_rfl) (fun _ _ _ h => h) (Or.inl ⟨by kernel_rfl, ?hy17⟩) hH ?rs17; (case hy17 => (intro wx hSw; (try dsimp only at hSw); go_simp; try with_reducible rfl)); try simp only [Act.put, List.setIfInBounds_toArray, List.set_cons_zero, List.set_cons_succ]; try simp only [List.getElem_toArray, List.getElem_cons_succ, List.getElem_cons_zero])
      (refine wpAnyH_take (i := 7) (oi := ⟨_, _, _, _, _, _⟩) (v := ?tv18) rfl (by kernel_rfl) (by kernel_rfl) (by kernel_rfl) (fun _ _ _ h => h) (Or.inl ⟨by kernel_rfl, ?hy18⟩) hH ?rs18; (case hy18 => (intro wx hSw; (try dsimp only at hSw); go_simp; try with_reducible rfl)); try simp only [Act.put, List.setIfInBounds_toArray, List.set_cons_zero, List.set_cons_succ]; try simp only [List.getElem_toArray, List.getElem_cons_succ, List.getElem_cons_zero])
      (refine wpAnyH_take (i := 8) (oi := ⟨_, _, _, _, _, _⟩) (v := ?tv19) rfl (by kernel_rfl) (by kernel_rfl) (by kernel_rfl) (fun _ _ _ h => h) (Or.inl ⟨by kernel_rfl, ?hy19⟩) hH ?rs19; (case hy19 => (intro wx hSw; (try dsimp only at hSw); go_simp; try with_reducible rfl)); try simp only [Act.put, List.setIfInBounds_toArray, List.set_cons_zero, List.set_cons_succ]; try simp only [List.getElem_toArray, List.getElem_cons_succ, List.getElem_cons_zero])
      (refine wpAnyH_ready (rs := [9]) (by kernel_rfl) (by simp) ?_; refine AllReadyH.cons rfl (fun K hK => ?_) AllReadyH.nil; go_simp)
      refine (hcmp _).mono ?_
      rintro e wa ⟨rfl, xa⟩
      have q1 := ext_trans hr0 xa
      (go_wp2_with fail; refine hK.out _ _ (hbk q1) (fun hH => ?_); clear hK K; try simp only [Act.put, List.setIfInBounds_toArray, List.set_cons_zero, List.set_cons_succ]; try simp only [List.getElem_toArray, List.getElem_cons_succ, List.getElem_cons_zero])
      (refine wpAnyH_take (i := 10) (oi := ⟨_, _, _, _, _, _⟩) (v := ?tv20) rfl (by kernel_rfl) (by kernel_rfl) (by kernel_rfl) (fun _ _ _ h => h) (Or.inl ⟨by kernel_rfl, ?hy20⟩) hH ?rs20; (case hy20 => (intro wx hSw; (try dsimp only at hSw); go_simp; try with_reducible rfl)); try simp only [Act.put, List.setIfInBounds_toArray, List.set_cons_zero, List.set_cons_succ]; try simp only [List.getElem_toArray, List.getElem_cons_succ, List.getElem_cons_zero])
      refine wpAnyH_done (by kernel_rfl) ?_ _
      go_wp2_with fail
      exact ⟨⟨h2, j, by go_num, by go_num, hb2, ext_trans hx q1⟩, by simp [intOf] <;> omega⟩
    have hbl : decide ((i : Int) < (j : Int)) = false := dfalse (by omega)
    have hbl' : decide (i < j) = false := dfalse hij
    obtain rfl : i = j := by omega
    obtain ⟨s, hs⟩ : ∃ s, s = i - m := ⟨_, rfl⟩
    have hsl : s ≤ B.length := by have := hb.out; omega
    have hS : Srt (B.take s ++ x :: B.drop s) := by
      refine mv_srt hB ?_ ?_
      · intro y hy
        obtain ⟨u, h1, h2⟩ := mem_take_get hy
        have := hbs.out.yes (m + u) (by omega) (by omega)
        rw [hQ.out] at this
        obtain ⟨z, hz, az⟩ := this
        rw [hD.out, at_B (by have := ha.out; have := hm.out; omega) (by omega), h2] at hz
        cases hz
        exact leF_of az
      · intro y hy
        obtain ⟨u, h1, h2, h3⟩ := mem_drop_get hy
        have := hbs.out.no (m + u) (by omega) (by have := hb.out; omega)
        rw [hQ.out] at this
        refine fun hc => this ⟨y, ?_, hc⟩
        rw [hD.out, at_B (by have := ha.out; have := hm.out; omega) h2, h3]
    have hfin : Hid (mvD X B Z x s = X ++ (B.take s ++ x :: B.drop s) ++ Z) := Lib.hid (by unfold mvD; simp)
    have hpm := mv_perm B x s
    have hst : Hid (mvD X B Z x 0 = D) := Lib.hid (by rw [hD.out]; unfold mvD; simp)
    have u2 : IntKind.i64.wrap ((i : Int) - 1) = ((a + s : Nat) : Int) := by have := hm.out; rw [IntKind.wrap_i64]; omega
    have u2' : (i : Int) - 1 = ((a + s : Nat) : Int) := by have := hm.out; omega
    obtain ⟨e, he⟩ : ∃ e, e = a + s := ⟨_, rfl⟩
    rw [← he] at u2 u2'
    have hen : e < n := by have := hm.out; omega
    have hae : a ≤ e := by omega
    have hor : OwnF wr (slF g n c) D := OwnR.ext h hx
    have hmr : Mod (fun k => k = g) w wr := ext_mod (Mod.refl _ _) hx
    replace he := Lib.hid he
    replace hs := Lib.hid hs
    replace hsl := Lib.hid hsl
    replace hS := Lib.hid hS
    replace hpm := Lib.hid hpm
    clear h hx hbs k1 k2 k3 hdn hQ
    generalize B.take s ++ x :: B.drop s = S at *
    go_wp2_with fail
    go_loopw [13] (fun kv wr => ∃ (k u : Nat), k = a + u ∧ u ≤ s ∧ kv = .int .i64 k ∧ OwnF wr (slF g n c) (mvD X B Z x u) ∧ Mod (fun k => k = g) w wr) (fun k _ => e - (intOf k).toNat)
    case atStart => exact ⟨a, 0, rfl, Nat.zero_le _, rfl, by rw [hst.out]; exact hor, hmr⟩
    case round =>
      clear hor hmr hst
      obtain ⟨I, u, hk, hus, rfl, ho, hmw⟩ := hrel
      have hDk := Lib.hid (mv_len X B Z x (u := u) (by have := hsl.out; omega))
      replace hk := Lib.hid hk
      by_cases hlt : I < e
      case neg =>
        have hbk : decide ((I : Int) < (e : Int)) = false := dfalse (by omega)
        have hbk' : decide (I < e) = false := dfalse hlt
        have hus' : u = s := by have := hk.out; have := he.out; omega
        rw [hus', hfin.out] at ho
        go_wp2_with fail
        ((try simp only [Exit.inBlock, Exit.then]); refine bodyPost_ret (results_none rfl _ _ _) rfl ?_)
        exact ⟨rfl, S, hpm.out, hS.out, ho, hmw⟩
      have hbk : decide ((I : Int) < (e : Int)) = true := dtrue (by omega)
      have hbk' : decide (I < e) = true := dtrue hlt
      have hul : u < B.length := by have := hk.out; have := he.out; have := hsl.out; omega
      have hsw := (mv_sw X B Z x hul).1
      obtain ⟨J, hJ⟩ : ∃ J, J = I + 1 := ⟨_, rfl⟩
      rw [← ha.out, ← hk.out, ← hJ] at hsw
      have sw := Lib.hid hsw
      have hn := Lib.hid (show n = (mvD X B Z x u).length by rw [hDk.out]; have := hn'.out; have := hb.out; have := hm.out; have := ha.out; omega)
      have t1 : IntKind.i64.wrap ((I : Int) + 1) = (J : Int) := by rw [IntKind.wrap_i64]; omega
      have t1' : (I : Int) + 1 = (J : Int) := by omega
      have i0 : (0 : Int) ≤ (I : Int) := by omega
      have i1 : (I : Int) < (n : Int) := by omega
      have j0 : (0 : Int) ≤ (J : Int) := by omega
      have j1 : (J : Int) < (n : Int) := by omega
      have iI : IntKind.i64.wrap (I : Int) = (I : Int) := by rw [IntKind.wrap_i64]; omega
      have iJ : IntKind.i64.wrap (J : Int) = (J : Int) := by rw [IntKind.wrap_i64]; omega
      have hu1 : u + 1 ≤ s := by have := hk.out; have := he.out; omega
      have hdec : e - J < e - I := by omega
      replace hJ := Lib.hid hJ
      replace hDk := Lib.hid hDk
      clear hsw hus
      obtain ⟨M2, hM2⟩ : ∃ M2, M2 = mvD X B Z x (u + 1) := ⟨_, rfl⟩
      rw [← hM2] at sw
      replace hM2 := Lib.hid hM2
      generalize B[u] = q at *
      generalize mvD X B Z x u = M at *
      obtain ⟨ci0, ci1, ci2, ci3, ci4⟩ := ho.cellsp sw.out.pI
      obtain ⟨cj0, cj1, cj2, cj3, cj4⟩ := ho.cellsp sw.out.qJ
      have fI0 := ho.frozenAt (I * 5)
      have fI1 := ho.frozenAt (I * 5 + 1)
      have fI2 := ho.frozenAt (I * 5 + 2)
      have fI3 := ho.frozenAt (I * 5 + 3)
      have fI4 := ho.frozenAt (I * 5 + 4)
      go_wp2_with fail
      refine wp_region_held_drew (S := fun _ => True) (by kernel_rfl) trivial (fun hH => ?_)
      (refine wpAnyH_take (i := 0) (oi := ⟨_, _, _, _, _, _⟩) (v := ?tv21) rfl (by kernel_rfl) (by kernel_rfl) (by kernel_rfl) (fun _ _ _ h => h) (Or.inl ⟨by kernel_rfl, ?hy21⟩) hH ?rs21; (case hy21 => (intro wx hSw; (try dsimp only at hSw); go_simp; try with_reducible rfl)); try simp only [Act.put, List.setIfInBounds_toArray, List.set_cons_zero, List.set_cons_succ]; try simp only [List.getElem_toArray, List.getElem_cons_succ, List.getElem_cons_zero])
      (refine wpAnyH_take (i := 1) (oi := ⟨_, _, _, _, _, _⟩) (v := ?tv22) rfl (by kernel_rfl) (by kernel_rfl) (by kernel_rfl) (fun _ _ _ h => h) (Or.inl ⟨by kernel_rfl, ?hy22⟩) hH ?rs22; (case hy22 => (intro wx hSw; (try dsimp only at hSw); go_simp; try with_reducible rfl)); try simp only [Act.put, List.setIfInBounds_toArray, List.set_cons_zero, List.set_cons_succ]; try simp only [List.getElem_toArray, List.getElem_cons_succ, List.getElem_cons_zero])
      (refine wpAnyH_take (i := 2) (oi := ⟨_, _, _, _, _, _⟩) (v := ?tv23) rfl (by kernel_rfl) (by kernel_rfl) (by kernel_rfl) (fun _ _ _ h => h) (Or.inl ⟨by kernel_rfl, ?hy23⟩) hH ?rs23; (case hy23 => (intro wx hSw; (try dsimp only at hSw); go_simp; try with_reducible rfl)); try simp only [Act.put, List.setIfInBounds_toArray, List.set_cons_zero, List.set_cons_succ]; try simp only [List.getElem_toArray, List.getElem_cons_succ, List.getElem_cons_zero])
      (refine wpAnyH_take (i := 3) (oi := ⟨_, _, _, _, _, _⟩) (v := ?tv24) rfl (by kernel_rfl) (by kernel_rfl) (by kernel_rfl) (fun _ _ _ h => h) (Or.inl ⟨by kernel_rfl, ?hy24⟩) hH ?rs24; (case hy24 => (intro wx hSw; (try dsimp only at hSw); go_simp; try with_reducible rfl)); try simp only [Act.put, List.setIfInBounds_toArray, List.set_cons_zero, List.set_cons_succ]; try simp only [List.getElem_toArray, List.getElem_cons_succ, List.getElem_cons_zero])
      (refine wpAnyH_take (i := 4) (oi := ⟨_, _, _, _, _, _⟩) (v := ?tv25) rfl (by kernel_rfl) (by kernel_rfl) (by kernel_rfl) (fun _ _ _ h => h) (Or.inl ⟨by kernel_rfl, ?hy25⟩) hH ?rs25; (case hy25 => (intro wx hSw; (try dsimp only at hSw); go_simp; try with_reducible rfl)); try simp only [Act.put, List.setIfInBounds_toArray, List.set_cons_zero, List.set_cons_succ]; try simp only [List.getElem_toArray, List.getElem_cons_succ, List.getElem_cons_zero])
      (refine wpAnyH_take (i := 5) (oi := ⟨_, _, _, _, _, _⟩) (v := ?tv26) rfl (by kernel_rfl) (by kernel_rfl) (by kernel_rfl) (fun _ _ _ h => h) (Or.inl ⟨by kernel_rfl, ?hy26⟩) hH ?rs26; (case hy26 => (intro wx hSw; (try dsimp only at hSw); go_simp; try with_reducible rfl)); try simp only [Act.put, List.setIfInBounds_toArray, List.set_cons_zero, List.set_cons_succ]; try simp only [List.getElem_toArray, List.getElem_cons_succ, List.getElem_cons_zero])
      (refine wpAnyH_take (i := 6) (oi := ⟨_, _, _, _, _, _⟩) (v := ?tv27) rfl (by kernel_rfl) (by kernel_rfl) (by kernel_rfl) (fun _ _ _ h => h) (Or.inl ⟨by kernel_rfl, ?hy27⟩) hH ?rs27; (case hy27 => (intro wx hSw; (try dsimp only at hSw); go_simp; try with_reducible rfl)); try simp only [Act.put, List.setIfInBounds_toArray, List.set_cons_zero, List.set_cons_succ]; try simp only [List.getElem_toArray, List.getElem_cons_succ, List.getElem_cons_zero])
      (refine wpAnyH_take (i := 7) (oi := ⟨_, _, _, _, _, _⟩) (v := ?tv28) rfl (by kernel_rfl) (by kernel_rfl) (by kernel_rfl) (fun _ _ _ h => h) (Or.inl ⟨by kernel_rfl, ?hy28⟩) hH ?rs28; (case hy28 => (intro wx hSw; (try dsimp only at hSw); go_simp; try with_reducible rfl)); try simp only [Act.put, List.setIfInBounds_toArray, List.set_cons_zero, List.set_cons_succ]; try simp only [List.getElem_toArray, List.getElem_cons_succ, List.getElem_cons_zero])
      (refine wpAnyH_take (i := 8) (oi := ⟨_, _, _, _, _, _⟩) (v := ?tv29) rfl (by kernel_rfl) (by kernel_rfl) (by kernel_rfl) (fun _ _ _ h => h) (Or.inl ⟨by kernel_rfl, ?hy29⟩) hH ?rs29; (case hy29 => (intro wx hSw; (try dsimp only at hSw); go_simp; try with_reducible rfl)); try simp only [Act.put, List.setIfInBounds_toArray, List.set_cons_zero, List.set_cons_succ]; try simp only [List.getElem_toArray, List.getElem_cons_succ, List.getElem_cons_zero])
      (refine wpAnyH_take (i := 10) (oi := ⟨_, _, _, _, _, _⟩) (v := ?tv30) rfl (by kernel_rfl) (by kernel_rfl) (by kernel_rfl) (fun _ _ _ h => h) (Or.inl ⟨by kernel_rfl, ?hy30⟩) hH ?rs30; (case hy30 => (intro wx hSw; (try dsimp only at hSw); go_simp; try with_reducible rfl)); try simp only [Act.put, List.setIfInBounds_toArray, List.set_cons_zero, List.set_cons_succ]; try simp only [List.getElem_toArray, List.getElem_cons_succ, List.getElem_cons_zero])
      (refine wpAnyH_take (i := 11) (oi := ⟨_, _, _, _, _, _⟩) (v := ?tv31) rfl (by kernel_rfl) (by kernel_rfl) (by kernel_rfl) (fun _ _ _ h => h) (Or.inl ⟨by kernel_rfl, ?hy31⟩) hH ?rs31; (case hy31 => (intro wx hSw; (try dsimp only at hSw); go_simp; try with_reducible rfl)); try simp only [Act.put, List.setIfInBounds_toArray, List.set_cons_zero, List.set_cons_succ]; try simp only [List.getElem_toArray, List.getElem_cons_succ, List.getElem_cons_zero])
      (refine wpAnyH_take (i := 12) (oi := ⟨_, _, _, _, _, _⟩) (v := ?tv32) rfl (by kernel_rfl) (by kernel_rfl) (by kernel_rfl) (fun _ _ _ h => h) (Or.inl ⟨by kernel_rfl, ?hy32⟩) hH ?rs32; (case hy32 => (intro wx hSw; (try dsimp only at hSw); go_simp; try with_reducible rfl)); try simp only [Act.put, List.setIfInBounds_toArray, List.set_cons_zero, List.set_cons_succ]; try simp only [List.getElem_toArray, List.getElem_cons_succ, List.getElem_cons_zero])
      refine wpAnyH_ready (rs := [9, 13]) (by kernel_rfl) (by simp) ?_
      refine AllReadyH.cons rfl (fun K hK => ?_) (AllReadyH.cons rfl (fun K hK => ?_) AllReadyH.nil)
      case' refine_1 =>
        go_simp
        (go_wp2_with fail; refine hK.out _ _ (trivial) (fun hH => ?_); clear hK K; try simp only [Act.put, List.setIfInBounds_toArray, List.set_cons_zero, List.set_cons_succ]; try simp only [List.getElem_toArray, List.getElem_cons_succ, List.getElem_cons_zero])
        refine wpAnyH_ready (rs := [13]) (by kernel_rfl) (by simp) ?_
        refine AllReadyH.cons rfl (fun K hK => ?_) AllReadyH.nil
        go_simp
        (go_wp2_with fail; refine hK.out _ _ (trivial) (fun hH => ?_); clear hK K; try simp only [Act.put, List.setIfInBounds_toArray, List.set_cons_zero, List.set_cons_succ]; try simp only [List.getElem_toArray, List.getElem_cons_succ, List.getElem_cons_zero])
        (refine wpAnyH_take (i := 14) (oi := ⟨_, _, _, _, _, _⟩) (v := ?tv33) rfl (by kernel_rfl) (by kernel_rfl) (by kernel_rfl) (fun _ _ _ h => h) (Or.inl ⟨by kernel_rfl, ?hy33⟩) hH ?rs33; (case hy33 => (intro wx hSw; (try dsimp only at hSw); go_simp; try with_reducible rfl)); try simp only [Act.put, List.setIfInBounds_toArray, List.set_cons_zero, List.set_cons_succ]; try simp only [List.getElem_toArray, List.getElem_cons_succ, List.getElem_cons_zero])
        refine wpAnyH_ready (rs := [15]) (by kernel_rfl) (by simp) ?_
        refine AllReadyH.cons rfl (fun K hK => ?_) AllReadyH.nil
        go_simp
        (go_wp2_with fail; refine hK.out _ _ (trivial) (fun hH => ?_); clear hK K; try simp only [Act.put, List.setIfInBounds_toArray, List.set_cons_zero, List.set_cons_succ]; try simp only [List.getElem_toArray, List.getElem_cons_succ, List.getElem_cons_zero])
        have k1 := OwnF.set ho hn.out I q
        have m1 := set5_mod wr g I q
        obtain ⟨wB, hwB⟩ : ∃ w', w' = (((((wr.setCell ⟨g, I * 5, none⟩ (.int .i64 q.id)).setCell ⟨g, I * 5 + 1, none⟩ (.int .i64 q.lev)).setCell ⟨g, I * 5 + 2, none⟩ (.int .i64 q.size)).setCell ⟨g, I * 5 + 3, none⟩ (sv q.first)).setCell ⟨g, I * 5 + 4, none⟩ (sv q.last)) := ⟨_, rfl⟩
        rw [← hwB] at k1 m1 ⊢
        clear hwB ci0 ci1 ci2 ci3 ci4 cj0 cj1 cj2 cj3 cj4 fI0 fI1 fI2 fI3 fI4
        obtain ⟨cj0, cj1, cj2, cj3, cj4⟩ := k1.cells (i := J) (by rw [List.length_set]; exact sw.out.hJ)
        generalize (M.set I q)[J]'(by rw [List.length_set]; exact sw.out.hJ) = zj at *
        have fJ0 := k1.frozenAt (J * 5)
        have fJ1 := k1.frozenAt (J * 5 + 1)
        have fJ2 := k1.frozenAt (J * 5 + 2)
        have fJ3 := k1.frozenAt (J * 5 + 3)
        have fJ4 := k1.frozenAt (J * 5 + 4)
        (refine wpAnyH_take (i := 16) (oi := ⟨_, _, _, _, _, _⟩) (v := ?tv34) rfl (by kernel_rfl) (by kernel_rfl) (by kernel_rfl) (fun _ _ _ h => h) (Or.inl ⟨by kernel_rfl, ?hy34⟩) hH ?rs34; (case hy34 => (intro wx hSw; (try dsimp only at hSw); go_simp; try with_reducible rfl)); try simp only [Act.put, List.setIfInBounds_toArray, List.set_cons_zero, List.set_cons_succ]; try simp only [List.getElem_toArray, List.getElem_cons_succ, List.getElem_cons_zero])
        refine wpAnyH_ready (rs := [17]) (by kernel_rfl) (by simp) ?_
        refine AllReadyH.cons rfl (fun K hK => ?_) AllReadyH.nil
        go_simp
        (go_wp2_with fail; refine hK.out _ _ (trivial) (fun hH => ?_); clear hK K; try simp only [Act.put, List.setIfInBounds_toArray, List.set_cons_zero, List.set_cons_succ]; try simp only [List.getElem_toArray, List.getElem_cons_succ, List.getElem_cons_zero])
        refine wpAnyH_done (by kernel_rfl) ?_ _
      case' refine_2 =>
        go_simp
        (go_wp2_with fail; refine hK.out _ _ (trivial) (fun hH => ?_); clear hK K; try simp only [Act.put, List.setIfInBounds_toArray, List.set_cons_zero, List.set_cons_succ]; try simp only [List.getElem_toArray, List.getElem_cons_succ, List.getElem_cons_zero])
        refine wpAnyH_ready (rs := [9]) (by kernel_rfl) (by simp) ?_
        refine AllReadyH.cons rfl (fun K hK => ?_) AllReadyH.nil
        go_simp
        (go_wp2_with fail; refine hK.out _ _ (trivial) (fun hH => ?_); clear hK K; try simp only [Act.put, List.setIfInBounds_toArray, List.set_cons_zero, List.set_cons_succ]; try simp only [List.getElem_toArray, List.getElem_cons_succ, List.getElem_cons_zero])
        (refine wpAnyH_take (i := 14) (oi := ⟨_, _, _, _, _, _⟩) (v := ?tv35) rfl (by kernel_rfl) (by kernel_rfl) (by kernel_rfl) (fun _ _ _ h => h) (Or.inl ⟨by kernel_rfl, ?hy35⟩) hH ?rs35; (case hy35 => (intro wx hSw; (try dsimp only at hSw); go_simp; try with_reducible rfl)); try simp only [Act.put, List.setIfInBounds_toArray, List.set_cons_zero, List.set_cons_succ]; try simp only [List.getElem_toArray, List.getElem_cons_succ, List.getElem_cons_zero])
        refine wpAnyH_ready (rs := [15]) (by kernel_rfl) (by simp) ?_
        refine AllReadyH.cons rfl (fun K hK => ?_) AllReadyH.nil
        go_simp
        (go_wp2_with fail; refine hK.out _ _ (trivial) (fun hH => ?_); clear hK K; try simp only [Act.put, List.setIfInBounds_toArray, List.set_cons_zero, List.set_cons_succ]; try simp only [List.getElem_toArray, List.getElem_cons_succ, List.getElem_cons_zero])
        have k1 := OwnF.set ho hn.out I q
        have m1 := set5_mod wr g I q
        obtain ⟨wB, hwB⟩ : ∃ w', w' = (((((wr.setCell ⟨g, I * 5, none⟩ (.int .i64 q.id)).setCell ⟨g, I * 5 + 1, none⟩ (.int .i64 q.lev)).setCell ⟨g, I * 5 + 2, none⟩ (.int .i64 q.size)).setCell ⟨g, I * 5 + 3, none⟩ (sv q.first)).setCell ⟨g, I * 5 + 4, none⟩ (sv q.last)) := ⟨_, rfl⟩
        rw [← hwB] at k1 m1 ⊢
        clear hwB ci0 ci1 ci2 ci3 ci4 cj0 cj1 cj2 cj3 cj4 fI0 fI1 fI2 fI3 fI4
        obtain ⟨cj0, cj1, cj2, cj3, cj4⟩ := k1.cells (i := J) (by rw [List.length_set]; exact sw.out.hJ)
        generalize (M.set I q)[J]'(by rw [List.length_set]; exact sw.out.hJ) = zj at *
        have fJ0 := k1.frozenAt (J * 5)
        have fJ1 := k1.frozenAt (J * 5 + 1)
        have fJ2 := k1.frozenAt (J * 5 + 2)
        have fJ3 := k1.frozenAt (J * 5 + 3)
        have fJ4 := k1.frozenAt (J * 5 + 4)
        (refine wpAnyH_take (i := 16) (oi := ⟨_, _, _, _, _, _⟩) (v := ?tv36) rfl (by kernel_rfl) (by kernel_rfl) (by kernel_rfl) (fun _ _ _ h => h) (Or.inl ⟨by kernel_rfl, ?hy36⟩) hH ?rs36; (case hy36 => (intro wx hSw; (try dsimp only at hSw); go_simp; try with_reducible rfl)); try simp only [Act.put, List.setIfInBounds_toArray, List.set_cons_zero, List.set_cons_succ]; try simp only [List.getElem_toArray, List.getElem_cons_succ, List.getElem_cons_zero])
        refine wpAnyH_ready (rs := [17]) (by kernel_rfl) (by simp) ?_
        refine AllReadyH.cons rfl (fun K hK => ?_) AllReadyH.nil
        go_simp
        (go_wp2_with fail; refine hK.out _ _ (trivial) (fun hH => ?_); clear hK K; try simp only [Act.put, List.setIfInBounds_toArray, List.set_cons_zero, List.set_cons_succ]; try simp only [List.getElem_toArray, List.getElem_cons_succ, List.getElem_cons_zero])
        refine wpAnyH_done (by kernel_rfl) ?_ _
      all_goals
        have k2 := OwnF.set k1 (by rw [List.length_set]; exact hn.out) J x
        rw [sw.out.e1] at k2
        have m2 := (Mod.then_ m1 (set5_mod wB g J x) (fun _ _ h => h)).drew
        clear cj0 cj1 cj2 cj3 cj4 k1 m1 fJ0 fJ1 fJ2 fJ3 fJ4
        go_wp2_with fail
        exact ⟨⟨J, u + 1, by have := hJ.out; have := hk.out; omega, hu1, by go_num, by rw [← hM2.out]; exact k2, hmw.then_ m2 (fun _ _ h => h)⟩, by simp [intOf] <;> omega⟩
end Go.Proofs.Ytmjkgibeljbloaa
