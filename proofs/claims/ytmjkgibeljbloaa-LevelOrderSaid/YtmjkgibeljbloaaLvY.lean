/- level: the law Order. -/
import Derived.Test.YtmjkgibeljbloaaLvX
import Derived.Test.YtmjkgibeljbloaaLvM
namespace Go.Proofs.Ytmjkgibeljbloaa
open Go.RowKit
set_option maxRecDepth 100000

/-- How files stand in a version. -/
def Rl (x y : Fl) : Prop := x.lev < y.lev ∨ (x.lev = y.lev ∧ x.lev = 0 ∧ x.id < y.id) ∨ (x.lev = y.lev ∧ x.lev ≠ 0 ∧ Op.bytesLess x.last y.first = true)
theorem rl_of {x y : Fl} (h : riseF x y) : Rl x y := by
  unfold riseF at h
  split at h
  · rename_i e
    split at h
    · rename_i e0
      exact .inr (.inl ⟨e, e0, h⟩)
    · rename_i e0
      exact .inr (.inr ⟨e, e0, h⟩)
  · exact .inl h
theorem rl_trans {x y z : Fl} (h : Rl x y) (k : Rl y z) (hy : leT y.first y.last) : Rl x z := by
  rcases h with h | ⟨h1, h2, h3⟩ | ⟨h1, h2, h3⟩ <;> rcases k with k | ⟨k1, k2, k3⟩ | ⟨k1, k2, k3⟩
  · exact .inl (by omega)
  · exact .inl (by omega)
  · exact .inl (by omega)
  · exact .inl (by omega)
  · exact .inr (.inl ⟨by omega, by omega, by omega⟩)
  · exact absurd (h1 ▸ h2) k2
  · exact .inl (by omega)
  · exact absurd (h1.trans k2) h2
  · exact .inr (.inr ⟨by omega, h2, less_trans _ _ _ (lt_le h3 hy) k3⟩)
theorem isV.pair {n : Int} {L : List Fl} (h : isV n L) : L.Pairwise Rl := by
  have hr : ∀ i (hi : i + 1 < L.length), Rl (L[i]'(by omega)) L[i + 1] := fun i hi => by
    obtain ⟨_, _, h2, _⟩ := h.2.2.2 (i + 1) hi
    exact rl_of (h2 (by omega))
  have hf : ∀ i (hi : i < L.length), leT L[i].first L[i].last := fun i hi => by
    obtain ⟨_, h1, _⟩ := h.2.2.2 i hi
    exact h1.2.2.2.2.2.2.2.2
  refine List.pairwise_iff_getElem.2 fun i j hi hj hij => ?_
  obtain ⟨d, rfl⟩ : ∃ d, j = i + 1 + d := ⟨j - i - 1, by omega⟩
  induction d with
  | zero => exact hr i hj
  | succ d ih => exact rl_trans (ih (by omega) (by omega)) (hr (i + 1 + d) hj) (hf _ _)
/-- How files stand that may have a key. -/
def Qr (x y : Fl) : Prop := x.lev < y.lev ∨ (x.lev = y.lev ∧ y.lev ≤ 0 ∧ y.id < x.id)
theorem inR_le {key : Tt} {c : Fl} (h : inR key key c = true) : Op.bytesLess c.last key = false ∧ leT c.first key := by
  unfold inR at h
  rw [Bool.and_eq_true] at h
  exact ⟨by simpa using h.1, leT_iff.2 h.2⟩
theorem ordN_pair {n : Int} {L : List Fl} (h : isV n L) (key : Tt) : (ordN L key).Pairwise fun x y => x.lev < y.lev := by
  have hp : (ordN L key).Pairwise Rl := (h.pair.filter _).filter _
  refine hp.imp_of_mem fun {x y} hx hy hxy => ?_
  obtain ⟨hx1, hx2⟩ := List.mem_filter.1 hx
  obtain ⟨hy1, hy2⟩ := List.mem_filter.1 hy
  have hxr := inR_le (List.mem_filter.1 hx1).2
  have hyr := inR_le (List.mem_filter.1 hy1).2
  rcases hxy with h1 | ⟨_, h2, _⟩ | ⟨_, _, h3⟩
  · exact h1
  · simp [nzF, h2] at hx2
  · have := lt_le h3 hyr.2
    rw [hxr.1] at this
    cases this
theorem ordN_up {n : Int} {L : List Fl} (h : isV n L) (key : Tt) : upL (ordN L key) := fun j hj => by
  have := List.pairwise_iff_getElem.1 (ordN_pair h key) j (j + 1) (by omega) hj (by omega)
  omega
theorem short_of : ∀ (N : List Fl) (lo : Int), N.Pairwise (fun x y => x.lev < y.lev) → (∀ c ∈ N, lo < c.lev ∧ c.lev ≤ 4) → (N.length : Int) ≤ if N = [] then 0 else 4 - lo
  | [], lo, _, _ => by simp
  | a :: N, lo, hp, hb => by
    obtain ⟨h1, h2⟩ := List.pairwise_cons.1 hp
    have ha := hb a List.mem_cons_self
    have ih := short_of N a.lev h2 (fun c hc => ⟨h1 c hc, (hb c (List.mem_cons_of_mem _ hc)).2⟩)
    rw [if_neg (by simp), List.length_cons]
    split at ih
    · push_cast; omega
    · push_cast; omega
theorem ordN_mem {n : Int} {L : List Fl} (h : isV n L) {key : Tt} {c : Fl} (hc : c ∈ ordN L key) : 0 < c.lev ∧ c.lev ≤ 4 := by
  obtain ⟨h1, h2⟩ := List.mem_filter.1 hc
  obtain ⟨k, hk, rfl⟩ := List.getElem_of_mem (List.mem_filter.1 h1).1
  obtain ⟨_, hf, _⟩ := h.2.2.2 k hk
  have h3 : L[k].lev ≠ 0 := by simpa [nzF] using h2
  have := hf.2.2.1
  have := hf.2.2.2.1
  omega
theorem ordN_short {n : Int} {L : List Fl} (h : isV n L) (key : Tt) : (ordN L key).length ≤ 19 := by
  have := short_of (ordN L key) 0 (ordN_pair h key) (fun c hc => ordN_mem h hc)
  split at this <;> omega
theorem ordF_pair {n : Int} {L : List Fl} (h : isV n L) (key : Tt) : (ordF L key).Pairwise Qr := by
  unfold ordF
  refine List.pairwise_append.2 ⟨?_, (ordN_pair h key).imp fun h => .inl h, fun x hx y hy => .inl ?_⟩
  · rw [List.pairwise_reverse]
    have hp : (L.filter (inL 0 key key)).Pairwise Rl := h.pair.filter _
    refine hp.imp_of_mem fun {x y} hx hy hxy => ?_
    have hx0 := inL_lev hx
    have hy0 := inL_lev hy
    rcases hxy with h1 | ⟨h1, h2, h3⟩ | ⟨_, h2, _⟩
    · omega
    · exact .inr ⟨by omega, by omega, h3⟩
    · exact absurd hx0 h2
  · have hx0 := inL_lev (List.mem_reverse.1 hx)
    have := (ordN_mem h hy).1
    omega
theorem ordF_mem {L : List Fl} {key : Tt} {c : Fl} (h : c ∈ ordF L key) : Op.bytesLess c.last key = false ∧ leT c.first key := by
  unfold ordF at h
  rcases List.mem_append.1 h with h | h
  · have h2 := (List.mem_filter.1 (List.mem_reverse.1 h)).2
    unfold inL at h2
    rw [Bool.and_eq_true] at h2
    exact inR_le h2.2
  · exact inR_le (List.mem_filter.1 (List.mem_filter.1 h).1).2
theorem cnt_split (P : Fl → Bool) : ∀ (L : List Fl), (L.filter P).length = (L.filter (fun c => atL 0 c && P c)).length + ((L.filter P).filter nzF).length
  | [] => rfl
  | a :: L => by
    have ih := cnt_split P L
    by_cases hp : P a = true
    · by_cases h0 : a.lev = 0
      · have h1 : (atL 0 a && P a) = true := by simp [atL, h0, hp]
        have h2 : ¬ nzF a = true := by simp [nzF, h0]
        rw [List.filter_cons_of_pos hp, List.filter_cons_of_pos (p := fun c => atL 0 c && P c) h1, List.filter_cons_of_neg h2, List.length_cons, List.length_cons]
        omega
      · have h1 : ¬ (atL 0 a && P a) = true := by simp [atL, h0]
        have h2 : nzF a = true := by simp [nzF, h0]
        rw [List.filter_cons_of_pos hp, List.filter_cons_of_neg (p := fun c => atL 0 c && P c) h1, List.filter_cons_of_pos h2, List.length_cons, List.length_cons]
        omega
    · have h1 : ¬ (atL 0 a && P a) = true := by simp [hp]
      rw [List.filter_cons_of_neg hp, List.filter_cons_of_neg (p := fun c => atL 0 c && P c) h1]
      exact ih
theorem ordF_len (L : List Fl) (key : Tt) : (ordF L key).length = (L.filter (inR key key)).length := by
  have := cnt_split (inR key key) L
  unfold ordF ordN
  rw [List.length_append, List.length_reverse]
  exact this.symm

set_option maxHeartbeats 64000000 in
theorem lorder_any {w : World} {S : Nat → Prop} {v : Value} {n : Int} {L : List Fl} {key : Tt} (h : Fs w S v L) (hf : MFits L) (hkl : key.length ≤ 140737488351232) :
    Calls Try.prog 9 #[.agg #[.int .i64 n, v], sv key] w fun e w' => e = .returned (.bool true) ∧ Ext w w' := by
  have hzk := sv_size key
  obtain ⟨A, c, rfl⟩ := h.shape
  have B0 : Blk (w.alloc (.cells #[.int .i64 n, .slice A L.length c] 24)) w.heap.size 24 #[.int .i64 n, .slice A L.length c] := Blk.new w _ _
  have hB : Ext w (w.alloc (.cells #[.int .i64 n, .slice A L.length c] 24)) := (Mod.refl _ w).alloc _
  obtain ⟨w0, hw0⟩ : ∃ w0, w0 = w.alloc (.cells #[.int .i64 n, .slice A L.length c] 24) := ⟨_, rfl⟩
  rw [← hw0] at B0 hB
  replace hw0 := Lib.hid hw0
  have b0 : w0.cell? ⟨w.heap.size, 0, none⟩ = some (.int .i64 n) := B0.cell 0
  have b1 : w0.cell? ⟨w.heap.size, 1, none⟩ = some (.slice A L.length c) := B0.cell 1
  have hhv := heavy11_any (h.ext hB) hf
  have hri := fun {wx : World} (x : Ext w0 wx) => ris_any (n := n) ((h.ext hB).ext x) hf
  have hor := fun {wx : World} (x : Ext w0 wx) (hv : isV n L) => order_any (n := n) (key := key) ((h.ext hB).ext x) (by have := hv.2.2.1; omega) (ordN_up hv key) (ordN_short hv key)
  have hkn := known11_any
  have hbb : ∀ {wx : World}, Ext w0 wx → wx.cell? ⟨w.heap.size, 0, none⟩ = some (.int .i64 n) ∧ wx.cell? ⟨w.heap.size, 1, none⟩ = some (.slice A L.length c) := fun x => ⟨ext_cell x b0, ext_cell x b1⟩
  obtain ⟨_, _, he, h1, h2, h3, h4⟩ := (h.ext hB).open_ fic_len
  injection he with he1 _ he3
  subst he1; subst he3
  clear h B0
  go_enter Try.func9, Try.ntmps9
  go_upto_region 1 with fail
  rw [← hw0.out]
  clear hw0
  go_wp2_with fail
  refine hhv.mono ?_
  rintro e w1 ⟨hq, rfl, hlt, x1⟩
  cases hq
  case true =>
    go_wp2_with fail
    go_ret
    exact ⟨rfl, ext_trans hB x1⟩
  obtain ⟨-, hlen⟩ := hlt rfl
  clear hhv b0 b1 hlt
  obtain ⟨b0, b1⟩ := hbb x1
  have hr1 := hri x1
  go_wp2_with fail
  refine hr1.mono ?_
  rintro e w2 ⟨rfl, x2⟩
  have y2 := ext_trans x1 x2
  clear hri hr1 b0 b1 x1 x2
  by_cases hv : isV n L
  case neg =>
    rw [dfalse hv]
    clear hv hor
    go_wp2_with fail
    go_ret
    exact ⟨rfl, ext_trans hB y2⟩
  rw [dtrue hv]
  have hor2 := hor y2 hv
  have hpair := ordF_pair hv key
  have hmem := fun c (h : c ∈ ordF L key) => ordF_mem h
  have hcnt := ordF_len L key
  clear hor hv
  generalize ordF L key = F at *
  by_cases hk2 : key.length ≤ 200
  case neg =>
    have q1 : decide ((200 : Int) < (key.length : Int)) = true := dtrue (by omega)
    have q1' : decide (200 < key.length) = true := dtrue (by omega)
    clear hor2
    go_wp2_with fail
    go_ret
    exact ⟨rfl, ext_trans hB y2⟩
  have q1 : decide ((200 : Int) < (key.length : Int)) = false := dfalse (by omega)
  have q1' : decide (200 < key.length) = false := dfalse (by omega)
  obtain ⟨b0, b1⟩ := hbb y2
  go_wp2_with fail
  refine hor2.mono ?_
  rintro e w3 ⟨v3, rfl, o3, x3⟩
  obtain ⟨A3, c3, rfl⟩ := ownF_sh o3
  obtain ⟨_, _, he, j1, j2, j3, j4⟩ := (OwnR.rc o3).open_ fic_len
  injection he with he1 _ he3
  subst he1; subst he3
  have y3 := ext_trans y2 x3
  have hFl : F.length ≤ 101 := by rw [hcnt]; exact Nat.le_trans (List.length_filter_le _ _) hlen
  replace hcnt := Lib.hid hcnt
  replace hpair := Lib.hid hpair
  clear hor2 b0 b1 y2 x3 q1 q1' o3
  go_wp2_with fail
  go_loopw [6] (fun i wr => ∃ (k : Nat), k ≤ F.length ∧ i = .int .i64 k ∧ Ext w3 wr) (fun i _ => F.length - (intOf i).toNat)
  case atStart => exact ⟨0, Nat.zero_le _, rfl, Mod.refl _ _⟩
  case round =>
    obtain ⟨k, hk, rfl, hx⟩ := hrel
    by_cases hlt : k < F.length
    case pos =>
      have hbl : decide ((k : Int) < (F.length : Int)) = true := dtrue (by omega)
      have hbl' : decide (k < F.length) = true := dtrue hlt
      obtain ⟨ad, hA, _, c0, c1, c2, c3', c4⟩ := Fs.at_ (j4.ext hx) hlt
      have hi0 : (0 : Int) ≤ (k : Int) := by omega
      have hi1 : (k : Int) < (F.length : Int) := by omega
      obtain ⟨hm1, hm2⟩ := hmem _ (List.getElem_mem hlt)
      have q3 : Op.bytesLess key F[k].first = false := hm2
      have q4 : (Op.bytesLess key F[k].last || key == F[k].last) = true := leT_iff.1 hm1
      by_cases hk0 : k = 0
      case pos =>
        have hg0 : decide ((0 : Int) < (k : Int)) = false := dfalse (by omega)
        have hg0' : decide (0 < k) = false := dfalse (by omega)
        subst hA
        clear hk0 hm1 hm2 hbb hkn
        generalize F[k] = x at *
        go_wp2_with fail
        go_quiet (fail)
        go_wp2_with fail
        exact ⟨⟨k + 1, by omega, by go_num, hx.drewN _⟩, by simp [intOf] <;> omega⟩
      obtain ⟨j, rfl⟩ : ∃ j, k = j + 1 := ⟨k - 1, by omega⟩
      have hg0 : decide ((0 : Int) < (j : Int) + 1) = true := dtrue (by omega)
      have hg0' : decide (0 < j + 1) = true := dtrue (by omega)
      have hj : j < F.length := by omega
      obtain ⟨ad', hA', _, d0, d1, d2, d3, d4⟩ := Fs.at_ (j4.ext hx) hj
      rw [hA] at hA'
      cases hA'
      subst hA
      have hQ := List.pairwise_iff_getElem.1 hpair.out j (j + 1) hj hlt (by omega)
      have hi2 : (0 : Int) ≤ (j : Int) := by omega
      have hi3 : (j : Int) < (F.length : Int) := by omega
      have hi4 : (j : Int) + 1 < (F.length : Int) := by omega
      have hi6 : (0 : Int) ≤ (j : Int) + 1 := by omega
      have hi5 : IntKind.i64.wrap (j : Int) = (j : Int) := by rw [IntKind.wrap_i64]; omega
      clear hk0 hm1 hm2 hbb hkn
      generalize F[j + 1] = x at *
      generalize F[j] = y at *
      rcases hQ with hq | ⟨hq1, hq2, hq3⟩
      · have g1 : decide (x.lev < y.lev) = false := dfalse (by omega)
        have g2 : (y.lev == x.lev) = false := by rw [beq_eq_false_iff_ne]; omega
        clear hq
        go_wp2_with fail
        go_quiet (fail)
        go_wp2_with fail
        exact ⟨⟨j + 1 + 1, by omega, by go_num, hx.drewN _⟩, by simp [intOf] <;> omega⟩
      · have g1 : decide (x.lev < y.lev) = false := dfalse (by omega)
        have g2 : (y.lev == x.lev) = true := by rw [beq_iff_eq]; omega
        have g3 : decide ((0 : Int) < x.lev) = false := dfalse (by omega)
        have g4 : decide (y.id ≤ x.id) = false := dfalse (by omega)
        clear hq1 hq2 hq3
        go_wp2_with fail
        go_quiet (fail)
        go_wp2_with fail
        exact ⟨⟨j + 1 + 1, by omega, by go_num, hx.drewN _⟩, by simp [intOf] <;> omega⟩
    have hbl : decide ((k : Int) < (F.length : Int)) = false := dfalse (by omega)
    have hbl' : decide (k < F.length) = false := dfalse hlt
    have y4 := ext_trans y3 hx
    clear hmem hpair
    go_wp2_with fail
    go_loopw [7, 8] (fun s i wz => ∃ (t : Nat), t ≤ L.length ∧ i = .int .i64 t ∧ s = .int .i64 (((L.take t).filter (inR key key)).length : Nat) ∧ Ext w0 wz) (fun _ i _ => L.length - (intOf i).toNat)
    case atStart => exact ⟨0, Nat.zero_le _, rfl, rfl, y4⟩
    case round =>
      clear y4 hx
      obtain ⟨t, ht, rfl, rfl, hx⟩ := hrel
      obtain ⟨b0, b1⟩ := hbb hx
      by_cases htl : t < L.length
      case neg =>
        have hbt : decide ((t : Int) < (L.length : Int)) = false := dfalse (by omega)
        have hbt' : decide (t < L.length) = false := dfalse htl
        have hE : ((L.take t).filter (inR key key)).length = F.length := by rw [List.take_of_length_le (by omega), hcnt.out]
        rw [hE]
        have q5 : ((F.length : Int) == (F.length : Int)) = true := beq_self_eq_true _
        clear hE hbb
        go_wp2_with fail
        refine (hkn _).mono ?_
        rintro e w7 ⟨rfl, x7⟩
        go_wp2_with fail
        go_ret
        exact ⟨rfl, ext_trans hB (ext_trans hx x7)⟩
      have hbt : decide ((t : Int) < (L.length : Int)) = true := dtrue (by omega)
      have hbt' : decide (t < L.length) = true := dtrue htl
      obtain ⟨ad, hA, _, c0, c1, c2, c3', c4⟩ := Fs.at_ (h4.ext hx) htl
      subst hA
      have hst := filt_step (inR key key) L htl
      have hfl := filt_len (inR key key) L t
      have hi0 : (0 : Int) ≤ (t : Int) := by omega
      have hi1 : (t : Int) < (L.length : Int) := by omega
      obtain ⟨M2, hM2⟩ : ∃ M2, M2 = (L.take (t + 1)).filter (inR key key) := ⟨_, rfl⟩
      rw [← hM2] at hst
      clear hbb hkn
      generalize L[t] = x at *
      generalize (L.take t).filter (inR key key) = M at *
      replace hM2 := Lib.hid (congrArg List.length hM2)
      have hinr : inR key key x = ((Op.bytesLess x.first key || x.first == key) && (Op.bytesLess key x.last || key == x.last)) := by
        unfold inR
        rw [Bool.and_comm]
        congr 1
        by_cases hle : leT key x.last
        · rw [leT_iff.1 hle]; unfold leT at hle; rw [hle]; rfl
        · have h1 : (Op.bytesLess key x.last || key == x.last) = false := by rw [← Bool.not_eq_true, ← leT_iff]; exact hle
          rw [h1]; unfold leT at hle; simpa using hle
      rw [hinr] at hst
      clear hinr
      obtain ⟨m, hm⟩ : ∃ m, m = M.length := ⟨_, rfl⟩
      rw [← hm] at hfl ⊢
      cases p1 : (Op.bytesLess x.first key || x.first == key)
      case false =>
        have hs2 : Hid (M2.length = m) := Lib.hid (by rw [hst, p1, hm]; simp)
        clear hst hm
        go_wp2_with fail
        exact ⟨⟨t + 1, by omega, by go_num, by rw [← hM2.out, hs2.out], hx⟩, by simp [intOf] <;> omega⟩
      cases p2 : (Op.bytesLess key x.last || key == x.last)
      case false =>
        have hs2 : Hid (M2.length = m) := Lib.hid (by rw [hst, p1, p2, hm]; simp)
        clear hst hm
        go_wp2_with fail
        exact ⟨⟨t + 1, by omega, by go_num, by rw [← hM2.out, hs2.out], hx⟩, by simp [intOf] <;> omega⟩
      have hs2 : Hid (M2.length = m + 1) := Lib.hid (by rw [hst, p1, p2, hm]; simp)
      clear hst hm
      go_wp2_with fail
      exact ⟨⟨t + 1, by omega, by go_num, by rw [← hM2.out, hs2.out]; go_num, hx⟩, by simp [intOf] <;> omega⟩
end Go.Proofs.Ytmjkgibeljbloaa
