/- sorting files: two rows become one. -/
import Derived.Test.YtmjkgibeljbloaaLsF
import Derived.Test.YtmjkgibeljbloaaLsG
namespace Go.Proofs.Ytmjkgibeljbloaa
open Go.RowKit
set_option maxRecDepth 100000

theorem Mg.parts {X A B Z : List Fl} {a m b mid nn lo hi s : Nat} (h : Mg X A B a m b mid nn lo hi) (hA : Srt A) (hB : Srt B) (hs : Hv (Qs (X ++ A ++ B ++ Z) (nn - 1)) lo hi s s) :
    ∃ (e : Nat) (A1 A2 B1 B2 : List Fl), (e = nn - s ∧ s ≤ nn ∧ s = a + A1.length ∧ m = s + A2.length ∧ mid = s + B1.length ∧ e = mid + A2.length ∧ e = m + B1.length ∧ b = e + B2.length) ∧ Cutp A B A1 A2 B1 B2 ∧ Srt A1 ∧ Srt A2 ∧ Srt B1 ∧ Srt B2 := by
  have hc := h.spl hA hB hs
  have hq := hc.srt hA hB
  have ke := h.end_ hs.l1 hs.l3
  have e1 := h.ha
  have e2 := h.hm
  have e3 := h.hb
  refine ⟨nn - s, _, _, _, _, ⟨rfl, ke.2.2.2.2.2.1, ?_, ?_, ?_, ?_, ?_, ?_⟩, hc, hq⟩ <;> simp only [List.length_take, List.length_drop] <;> omega
structure Mrg (N : Nat) : Prop where
  call : ∀ {w : World} {g n c a m b : Nat} {X A B Z : List Fl} (_ : A.length + B.length < N) (_ : OwnF w (slF g n c) (X ++ A ++ B ++ Z)) (_ : n = (X ++ A ++ B ++ Z).length) (_ : n ≤ 1000000) (_ : a = X.length) (_ : m = a + A.length) (_ : b = m + B.length) (_ : 1 ≤ A.length) (_ : 1 ≤ B.length) (_ : Srt A) (_ : Srt B),
    Calls Try.prog 71 #[slF g n c, .int .i64 (a : Nat), .int .i64 (m : Nat), .int .i64 (b : Nat), cF] w fun e w' => e = .returned (.tuple #[]) ∧ ∃ S, S.Perm (A ++ B) ∧ Srt S ∧ OwnF w' (slF g n c) (X ++ S ++ Z) ∧ Mod (fun k => k = g) w w'

set_option maxHeartbeats 64000000 in
theorem merge3_any {w : World} {g n c a m b : Nat} {X A B Z : List Fl} (h : OwnF w (slF g n c) (X ++ A ++ B ++ Z)) (hn : n = (X ++ A ++ B ++ Z).length) (hl : n ≤ 1000000) (ha : a = X.length) (hm : m = a + A.length) (hb : b = m + B.length) (hA2 : 2 ≤ A.length) (hB2 : 2 ≤ B.length) (sA : Srt A) (sB : Srt B) (ih : Mrg (A.length + B.length)) :
    Calls Try.prog 71 #[slF g n c, .int .i64 (a : Nat), .int .i64 (m : Nat), .int .i64 (b : Nat), cF] w fun e w' => e = .returned (.tuple #[]) ∧ ∃ S, S.Perm (A ++ B) ∧ Srt S ∧ OwnF w' (slF g n c) (X ++ S ++ Z) ∧ Mod (fun k => k = g) w w' := by
  have hn' : b + Z.length = n := by rw [hn]; simp only [List.length_append]; omega
  have u0 : IntKind.i64.wrap ((m : Int) - (a : Int)) = ((m - a : Nat) : Int) := by rw [IntKind.wrap_i64]; omega
  have u0' : (m : Int) - (a : Int) = ((m - a : Nat) : Int) := by omega
  obtain ⟨da, hda⟩ : ∃ da, da = m - a := ⟨_, rfl⟩
  rw [← hda] at u0 u0'
  have ud : ((da : Int) == 1) = false := by rw [beq_eq_false_iff_ne]; omega
  have ud' : (da == 1) = false := by rw [beq_eq_false_iff_ne]; omega
  have u1 : IntKind.i64.wrap ((b : Int) - (m : Int)) = ((b - m : Nat) : Int) := by rw [IntKind.wrap_i64]; omega
  have u1' : (b : Int) - (m : Int) = ((b - m : Nat) : Int) := by omega
  obtain ⟨db, hdb⟩ : ∃ db, db = b - m := ⟨_, rfl⟩
  rw [← hdb] at u1 u1'
  have ue : ((db : Int) == 1) = false := by rw [beq_eq_false_iff_ne]; omega
  have ue' : (db == 1) = false := by rw [beq_eq_false_iff_ne]; omega
  obtain ⟨mid, hmid⟩ : ∃ mid, mid = (a + b) / 2 := ⟨_, rfl⟩
  have x1 : IntKind.i64.wrap ((a : Int) + (b : Int)) = ((a + b : Nat) : Int) := by rw [IntKind.wrap_i64]; omega
  have x1' : (a : Int) + (b : Int) = ((a + b : Nat) : Int) := by omega
  have x2 : IntKind.u64.wrap ((a + b : Nat) : Int) = ((a + b : Nat) : Int) := by rw [IntKind.wrap_u64]; omega
  have x3 : ((a + b : Nat) : Int) / 2 = (mid : Int) := by omega
  have x4 : IntKind.i64.wrap (mid : Int) = (mid : Int) := by rw [IntKind.wrap_i64]; omega
  obtain ⟨nn, hnn⟩ : ∃ nn, nn = mid + m := ⟨_, rfl⟩
  have x5 : IntKind.i64.wrap ((mid : Int) + (m : Int)) = (nn : Int) := by rw [IntKind.wrap_i64]; omega
  have x5' : (mid : Int) + (m : Int) = (nn : Int) := by omega
  obtain ⟨pp, hpp⟩ : ∃ pp, pp = nn - 1 := ⟨_, rfl⟩
  have x6 : IntKind.i64.wrap ((nn : Int) - 1) = (pp : Int) := by rw [IntKind.wrap_i64]; omega
  have x6' : (nn : Int) - 1 = (pp : Int) := by omega
  obtain ⟨D, hD⟩ : ∃ D, D = X ++ A ++ B ++ Z := ⟨_, rfl⟩
  rw [← hD] at h hn
  have hDn : Hid (D.length = n) := Lib.hid hn.symm
  have hmgs : ∃ lo hi, Mg X A B a m b mid nn lo hi := by
    by_cases q : mid < m
    · exact ⟨nn - b, mid, ha, hm, hb, by omega, by omega, hmid, hnn, Or.inl ⟨q, rfl, rfl⟩⟩
    · exact ⟨a, m, ha, hm, hb, by omega, by omega, hmid, hnn, Or.inr ⟨by omega, rfl, rfl⟩⟩
  obtain ⟨lo, hi, hmg⟩ := hmgs
  have hlh := hmg.lohi.1
  have hll := hmg.hlo
  have mg := Lib.hid hmg
  have hdn := Lib.hid (hmg.down (Z := Z) sA sB)
  rw [← hD, ← hpp] at hdn
  have him := hmg.lohi.2.2.1
  have bb : m ≤ b ∧ b ≤ n ∧ mid ≤ b ∧ nn ≤ 2 * n := by omega
  generalize hab : a + b = ab at *
  replace hab := Lib.hid hab
  replace hD := Lib.hid hD
  replace sA := Lib.hid sA
  replace sB := Lib.hid sB
  replace ih := Lib.hid ih
  replace hpp := Lib.hid hpp
  replace hn' := Lib.hid hn'
  clear hn hmg hda hdb hmid ha hm hb hA2 hB2
  rcases hll with ⟨hmm, hlo, hhi⟩ | ⟨hmm, hlo, hhi⟩
  · have y1 : decide ((mid : Int) < (m : Int)) = true := dtrue (by omega)
    have y1' : decide (mid < m) = true := dtrue hmm
    have y2 : IntKind.i64.wrap ((nn : Int) - (b : Int)) = (lo : Int) := by rw [IntKind.wrap_i64]; omega
    have y2' : (nn : Int) - (b : Int) = (lo : Int) := by omega
    replace hhi := Lib.hid hhi
    replace hlo := Lib.hid hlo
    replace hnn := Lib.hid hnn
    go_enter Try.func71, Try.ntmps71
    go_wp2_with fail
    go_loopw [20, 21] (fun iv jv wr => ∃ (i j : Nat), iv = .int .i64 i ∧ jv = .int .i64 j ∧ Hid (Hv (Qs D pp) lo hi i j) ∧ Ext w wr) (fun i j _ => (intOf j).toNat - (intOf i).toNat)
    case atStart => exact ⟨lo, hi, by first | rfl | rw [hlo.out], by first | rfl | rw [hhi.out], Lib.hid (Hv.start _ hlh), Mod.refl _ _⟩
    case round =>
      obtain ⟨i, j, rfl, rfl, hbs, hx⟩ := hrel
      have k1 := hbs.out.l1
      have k2 := hbs.out.l2
      have k3 := hbs.out.l3
      by_cases hij : i < j
      case pos =>
        have hbl : decide ((i : Int) < (j : Int)) = true := dtrue (by omega)
        have hbl' : decide (i < j) = true := dtrue hij
        obtain ⟨hh, hhv⟩ : ∃ hh, hh = (i + j) / 2 := ⟨_, rfl⟩
        have hh1 : i ≤ hh := by omega
        have hh2 : hh < j := by omega
        have v1 : IntKind.i64.wrap ((i : Int) + (j : Int)) = ((i + j : Nat) : Int) := by rw [IntKind.wrap_i64]; omega
        have v1' : (i : Int) + (j : Int) = ((i + j : Nat) : Int) := by omega
        have v2 : IntKind.u64.wrap ((i + j : Nat) : Int) = ((i + j : Nat) : Int) := by rw [IntKind.wrap_u64]; omega
        have v3 : ((i + j : Nat) : Int) / 2 = (hh : Int) := by omega
        have v4 : IntKind.i64.wrap (hh : Int) = (hh : Int) := by rw [IntKind.wrap_i64]; omega
        have hcc := mg.out.at_ (c := hh) (by omega) (by omega)
        have hpp1 := hpp.out
        obtain ⟨pc, hpc⟩ : ∃ pc, pc = pp - hh := ⟨_, rfl⟩
        have h0 : (0 : Int) ≤ (hh : Int) := by omega
        have h1 : (hh : Int) < (n : Int) := by omega
        have h0p : (0 : Int) ≤ (pc : Int) := by omega
        have h1p : (pc : Int) < (n : Int) := by omega
        have w1 : IntKind.i64.wrap ((pp : Int) - (hh : Int)) = (pc : Int) := by rw [IntKind.wrap_i64]; omega
        have w1' : (pp : Int) - (hh : Int) = (pc : Int) := by omega
        have w2 : IntKind.i64.wrap (pc : Int) = (pc : Int) := by rw [IntKind.wrap_i64]; omega
        generalize hij2 : i + j = ij at *
        replace hhv := Lib.hid hhv
        replace hij2 := Lib.hid hij2
        have v5 : IntKind.i64.wrap ((hh : Int) + 1) = ((hh + 1 : Nat) : Int) := by rw [IntKind.wrap_i64]; omega
        have v5' : (hh : Int) + 1 = ((hh + 1 : Nat) : Int) := by omega
        obtain ⟨h2, hh3⟩ : ∃ h2, h2 = hh + 1 := ⟨_, rfl⟩
        rw [← hh3] at v5 v5'
        have hd1 : j - h2 < j - i := by omega
        have hd2 : hh - i < j - i := by omega
        have hlh1 : hh < D.length := by have := hDn.out; omega
        have hlh2 : pc < D.length := by have := hDn.out; omega
        obtain ⟨z, hz⟩ : ∃ z, D[hh]? = some z := ⟨D[hh], List.getElem?_eq_getElem hlh1⟩
        obtain ⟨y, hy⟩ : ∃ y, D[pc]? = some y := ⟨D[pc], List.getElem?_eq_getElem hlh2⟩
        have hq : Qs D pp hh ↔ ¬ aheadF y z := by
          unfold Qs
          rw [← hpc]
          constructor
          · rintro ⟨p, q, hp, hq, k⟩; rw [hz] at hp; rw [hy] at hq; cases hp; cases hq; exact k
          · exact fun k => ⟨z, y, hz, hy, k⟩
        have hbk : ∀ {wx : World}, Ext wr wx → wx.cell? ⟨g, pc * 5, none⟩ = some (.int .i64 y.id) ∧ wx.cell? ⟨g, pc * 5 + 1, none⟩ = some (.int .i64 y.lev) ∧ wx.cell? ⟨g, pc * 5 + 2, none⟩ = some (.int .i64 y.size) ∧ wx.cell? ⟨g, pc * 5 + 3, none⟩ = some (sv y.first) ∧ wx.cell? ⟨g, pc * 5 + 4, none⟩ = some (sv y.last) ∧ wx.cell? ⟨g, hh * 5, none⟩ = some (.int .i64 z.id) ∧ wx.cell? ⟨g, hh * 5 + 1, none⟩ = some (.int .i64 z.lev) ∧ wx.cell? ⟨g, hh * 5 + 2, none⟩ = some (.int .i64 z.size) ∧ wx.cell? ⟨g, hh * 5 + 3, none⟩ = some (sv z.first) ∧ wx.cell? ⟨g, hh * 5 + 4, none⟩ = some (sv z.last) := by
          intro wx hxx
          have o : OwnF wx (slF g n c) D := OwnR.ext h (ext_trans hx hxx)
          obtain ⟨c0, c1, c2, c3, c4⟩ := OwnF.cellsp o hy
          obtain ⟨d0, d1, d2, d3, d4⟩ := OwnF.cellsp o hz
          exact ⟨c0, c1, c2, c3, c4, d0, d1, d2, d3, d4⟩
        have hcmp := fun wx => order_any (w := wx) y z
        have hlt2 := ordI_lt y z
        have hr0 : Ext wr wr.drew := (Mod.refl _ wr).drew
        replace hh3 := Lib.hid hh3
        clear hpp1 hpc hcc
        by_cases hah : aheadF y z
        case pos =>
          have hlt3 : decide (ordI y z < 0) = true := hlt2.trans (dtrue hah)
          have hb2 := Lib.hid (hbs.out.down hdn.out hh1 hh2 (fun k => hq.1 k hah))
          clear hlt2 hah hq hbs
          go_wp2_with fail
          refine wp_region_held_drew (S := fun wx => wx.cell? ⟨g, pc * 5, none⟩ = some (.int .i64 y.id) ∧ wx.cell? ⟨g, pc * 5 + 1, none⟩ = some (.int .i64 y.lev) ∧ wx.cell? ⟨g, pc * 5 + 2, none⟩ = some (.int .i64 y.size) ∧ wx.cell? ⟨g, pc * 5 + 3, none⟩ = some (sv y.first) ∧ wx.cell? ⟨g, pc * 5 + 4, none⟩ = some (sv y.last) ∧ wx.cell? ⟨g, hh * 5, none⟩ = some (.int .i64 z.id) ∧ wx.cell? ⟨g, hh * 5 + 1, none⟩ = some (.int .i64 z.lev) ∧ wx.cell? ⟨g, hh * 5 + 2, none⟩ = some (.int .i64 z.size) ∧ wx.cell? ⟨g, hh * 5 + 3, none⟩ = some (sv z.first) ∧ wx.cell? ⟨g, hh * 5 + 4, none⟩ = some (sv z.last)) (by kernel_rfl) (hbk hr0) (fun hH => ?_)
          (refine wpAnyH_take (i := 0) (oi := ⟨_, _, _, _, _, _⟩) (v := ?tv1) rfl (by kernel_rfl) (by kernel_rfl) (by kernel_rfl) (fun _ _ _ h => h) (Or.inl ⟨by kernel_rfl, ?hy1⟩) hH ?rs1; (case hy1 => (intro wx hSw; (try dsimp only at hSw); go_simp; try with_reducible rfl)); try simp only [Act.put, List.setIfInBounds_toArray, List.set_cons_zero, List.set_cons_succ]; try simp only [List.getElem_toArray, List.getElem_cons_succ, List.getElem_cons_zero])
          (refine wpAnyH_take (i := 1) (oi := ⟨_, _, _, _, _, _⟩) (v := ?tv2) rfl (by kernel_rfl) (by kernel_rfl) (by kernel_rfl) (fun _ _ _ h => h) (Or.inl ⟨by kernel_rfl, ?hy2⟩) hH ?rs2; (case hy2 => (intro wx hSw; (try dsimp only at hSw); go_simp; try with_reducible rfl)); try simp only [Act.put, List.setIfInBounds_toArray, List.set_cons_zero, List.set_cons_succ]; try simp only [List.getElem_toArray, List.getElem_cons_succ, List.getElem_cons_zero])
          (refine wpAnyH_take (i := 2) (oi := ⟨_, _, _, _, _, _⟩) (v := ?tv3) rfl (by kernel_rfl) (by kernel_rfl) (by kernel_rfl) (fun _ _ _ h => h) (Or.inl ⟨by kernel_rfl, ?hy3⟩) hH ?rs3; (case hy3 => (intro wx hSw; (try dsimp only at hSw); go_simp; try with_reducible rfl)); try simp only [Act.put, List.setIfInBounds_toArray, List.set_cons_zero, List.set_cons_succ]; try simp only [List.getElem_toArray, List.getElem_cons_succ, List.getElem_cons_zero])
          (refine wpAnyH_take (i := 3) (oi := ⟨_, _, _, _, _, _⟩) (v := ?tv4) rfl (by kernel_rfl) (by kernel_rfl) (by kernel_rfl) (fun _ _ _ h => h) (Or.inl ⟨by kernel_rfl, ?hy4⟩) hH ?rs4; (case hy4 => (intro wx hSw; (try dsimp only at hSw); go_simp; try with_reducible rfl)); try simp only [Act.put, List.setIfInBounds_toArray, List.set_cons_zero, List.set_cons_succ]; try simp only [List.getElem_toArray, List.getElem_cons_succ, List.getElem_cons_zero])
          (refine wpAnyH_take (i := 4) (oi := ⟨_, _, _, _, _, _⟩) (v := ?tv5) rfl (by kernel_rfl) (by kernel_rfl) (by kernel_rfl) (fun _ _ _ h => h) (Or.inl ⟨by kernel_rfl, ?hy5⟩) hH ?rs5; (case hy5 => (intro wx hSw; (try dsimp only at hSw); go_simp; try with_reducible rfl)); try simp only [Act.put, List.setIfInBounds_toArray, List.set_cons_zero, List.set_cons_succ]; try simp only [List.getElem_toArray, List.getElem_cons_succ, List.getElem_cons_zero])
          (refine wpAnyH_take (i := 5) (oi := ⟨_, _, _, _, _, _⟩) (v := ?tv6) rfl (by kernel_rfl) (by kernel_rfl) (by kernel_rfl) (fun _ _ _ h => h) (Or.inl ⟨by kernel_rfl, ?hy6⟩) hH ?rs6; (case hy6 => (intro wx hSw; (try dsimp only at hSw); go_simp; try with_reducible rfl)); try simp only [Act.put, List.setIfInBounds_toArray, List.set_cons_zero, List.set_cons_succ]; try simp only [List.getElem_toArray, List.getElem_cons_succ, List.getElem_cons_zero])
          (refine wpAnyH_take (i := 6) (oi := ⟨_, _, _, _, _, _⟩) (v := ?tv7) rfl (by kernel_rfl) (by kernel_rfl) (by kernel_rfl) (fun _ _ _ h => h) (Or.inl ⟨by kernel_rfl, ?hy7⟩) hH ?rs7; (case hy7 => (intro wx hSw; (try dsimp only at hSw); go_simp; try with_reducible rfl)); try simp only [Act.put, List.setIfInBounds_toArray, List.set_cons_zero, List.set_cons_succ]; try simp only [List.getElem_toArray, List.getElem_cons_succ, List.getElem_cons_zero])
          (refine wpAnyH_take (i := 7) (oi := ⟨_, _, _, _, _, _⟩) (v := ?tv8) rfl (by kernel_rfl) (by kernel_rfl) (by kernel_rfl) (fun _ _ _ h => h) (Or.inl ⟨by kernel_rfl, ?hy8⟩) hH ?rs8; (case hy8 => (intro wx hSw; (try dsimp only at hSw); go_simp; try with_reducible rfl)); try simp only [Act.put, List.setIfInBounds_toArray, List.set_cons_zero, List.set_cons_succ]; try simp only [List.getElem_toArray, List.getElem_cons_succ, List.getElem_cons_zero])
          (refine wpAnyH_take (i := 8) (oi := ⟨_, _, _, _, _, _⟩) (v := ?tv9) rfl (by kernel_rfl) (by kernel_rfl) (by kernel_rfl) (fun _ _ _ h => h) (Or.inl ⟨by kernel_rfl, ?hy9⟩) hH ?rs9; (case hy9 => (intro wx hSw; (try dsimp only at hSw); go_simp; try with_reducible rfl)); try simp only [Act.put, List.setIfInBounds_toArray, List.set_cons_zero, List.set_cons_succ]; try simp only [List.getElem_toArray, List.getElem_cons_succ, List.getElem_cons_zero])
          (refine wpAnyH_take (i := 9) (oi := ⟨_, _, _, _, _, _⟩) (v := ?tv10) rfl (by kernel_rfl) (by kernel_rfl) (by kernel_rfl) (fun _ _ _ h => h) (Or.inl ⟨by kernel_rfl, ?hy10⟩) hH ?rs10; (case hy10 => (intro wx hSw; (try dsimp only at hSw); go_simp; try with_reducible rfl)); try simp only [Act.put, List.setIfInBounds_toArray, List.set_cons_zero, List.set_cons_succ]; try simp only [List.getElem_toArray, List.getElem_cons_succ, List.getElem_cons_zero])
          (refine wpAnyH_take (i := 10) (oi := ⟨_, _, _, _, _, _⟩) (v := ?tv11) rfl (by kernel_rfl) (by kernel_rfl) (by kernel_rfl) (fun _ _ _ h => h) (Or.inl ⟨by kernel_rfl, ?hy11⟩) hH ?rs11; (case hy11 => (intro wx hSw; (try dsimp only at hSw); go_simp; try with_reducible rfl)); try simp only [Act.put, List.setIfInBounds_toArray, List.set_cons_zero, List.set_cons_succ]; try simp only [List.getElem_toArray, List.getElem_cons_succ, List.getElem_cons_zero])
          (refine wpAnyH_ready (rs := [11]) (by kernel_rfl) (by simp) ?_; refine AllReadyH.cons rfl (fun K hK => ?_) AllReadyH.nil; go_simp)
          refine (hcmp _).mono ?_
          rintro e wa ⟨rfl, xa⟩
          have q1 := ext_trans hr0 xa
          (go_wp2_with fail; refine hK.out _ _ (hbk q1) (fun hH => ?_); clear hK K; try simp only [Act.put, List.setIfInBounds_toArray, List.set_cons_zero, List.set_cons_succ]; try simp only [List.getElem_toArray, List.getElem_cons_succ, List.getElem_cons_zero])
          (refine wpAnyH_take (i := 12) (oi := ⟨_, _, _, _, _, _⟩) (v := ?tv12) rfl (by kernel_rfl) (by kernel_rfl) (by kernel_rfl) (fun _ _ _ h => h) (Or.inl ⟨by kernel_rfl, ?hy12⟩) hH ?rs12; (case hy12 => (intro wx hSw; (try dsimp only at hSw); go_simp; try with_reducible rfl)); try simp only [Act.put, List.setIfInBounds_toArray, List.set_cons_zero, List.set_cons_succ]; try simp only [List.getElem_toArray, List.getElem_cons_succ, List.getElem_cons_zero])
          (refine wpAnyH_take (i := 13) (oi := ⟨_, _, _, _, _, _⟩) (v := ?tv13) rfl (by kernel_rfl) (by kernel_rfl) (by kernel_rfl) (fun _ _ _ h => h) (Or.inl ⟨by kernel_rfl, ?hy13⟩) hH ?rs13; (case hy13 => (intro wx hSw; (try dsimp only at hSw); go_simp; try with_reducible rfl)); try simp only [Act.put, List.setIfInBounds_toArray, List.set_cons_zero, List.set_cons_succ]; try simp only [List.getElem_toArray, List.getElem_cons_succ, List.getElem_cons_zero])
          refine wpAnyH_done (by kernel_rfl) ?_ _
          go_wp2_with fail
          exact ⟨⟨i, hh, by go_num, by go_num, hb2, ext_trans hx q1⟩, by simp [intOf] <;> omega⟩
        have hlt3 : decide (ordI y z < 0) = false := hlt2.trans (dfalse hah)
        have hb2 := Lib.hid (hh3.out ▸ hbs.out.up hdn.out hh1 hh2 (hq.2 hah))
        clear hlt2 hah hq hbs
        go_wp2_with fail
        refine wp_region_held_drew (S := fun wx => wx.cell? ⟨g, pc * 5, none⟩ = some (.int .i64 y.id) ∧ wx.cell? ⟨g, pc * 5 + 1, none⟩ = some (.int .i64 y.lev) ∧ wx.cell? ⟨g, pc * 5 + 2, none⟩ = some (.int .i64 y.size) ∧ wx.cell? ⟨g, pc * 5 + 3, none⟩ = some (sv y.first) ∧ wx.cell? ⟨g, pc * 5 + 4, none⟩ = some (sv y.last) ∧ wx.cell? ⟨g, hh * 5, none⟩ = some (.int .i64 z.id) ∧ wx.cell? ⟨g, hh * 5 + 1, none⟩ = some (.int .i64 z.lev) ∧ wx.cell? ⟨g, hh * 5 + 2, none⟩ = some (.int .i64 z.size) ∧ wx.cell? ⟨g, hh * 5 + 3, none⟩ = some (sv z.first) ∧ wx.cell? ⟨g, hh * 5 + 4, none⟩ = some (sv z.last)) (by kernel_rfl) (hbk hr0) (fun hH => ?_)
        (refine wpAnyH_take (i := 0) (oi := ⟨_, _, _, _, _, _⟩) (v := ?tv14) rfl (by kernel_rfl) (by kernel_rfl) (by kernel_rfl) (fun _ _ _ h => h) (Or.inl ⟨by kernel_rfl, ?hy14⟩) hH ?rs14; (case hy14 => (intro wx hSw; (try dsimp only at hSw); go_simp; try with_reducible rfl)); try simp only [Act.put, List.setIfInBounds_toArray, List.set_cons_zero, List.set_cons_succ]; try simp only [List.getElem_toArray, List.getElem_cons_succ, List.getElem_cons_zero])
        (refine wpAnyH_take (i := 1) (oi := ⟨_, _, _, _, _, _⟩) (v := ?tv15) rfl (by kernel_rfl) (by kernel_rfl) (by kernel_rfl) (fun _ _ _ h => h) (Or.inl ⟨by kernel_rfl, ?hy15⟩) hH ?rs15; (case hy15 => (intro wx hSw; (try dsimp only at hSw); go_simp; try with_reducible rfl)); try simp only [Act.put, List.setIfInBounds_toArray, List.set_cons_zero, List.set_cons_succ]; try simp only [List.getElem_toArray, List.getElem_cons_succ, List.getElem_cons_zero])
        (refine wpAnyH_take (i := 2) (oi := ⟨_, _, _, _, _, _⟩) (v := ?tv16) rfl (by kernel_rfl) (by kernel_rfl) (by kernel_rfl) (fun _ _ _ h => h) (Or.inl ⟨by kernel_rfl, ?hy16⟩) hH ?rs16; (case hy16 => (intro wx hSw; (try dsimp only at hSw); go_simp; try with_reducible rfl)); try simp only [Act.put, List.setIfInBounds_toArray, List.set_cons_zero, List.set_cons_succ]; try simp only [List.getElem_toArray, List.getElem_cons_succ, List.getElem_cons_zero])
        (refine wpAnyH_take (i := 3) (oi := ⟨_, _, _, _, _, _⟩) (v := ?tv17) rfl (by kernel_rfl) (by kernel_rfl) (by kernel_rfl) (fun _ _ _ h => h) (Or.inl ⟨by kernel_rfl, ?hy17⟩) hH ?rs17; (case hy17 => (intro wx hSw; (try dsimp only at hSw); go_simp; try with_reducible rfl)); try simp only [Act.put, List.setIfInBounds_toArray, List.set_cons_zero, List.set_cons_succ]; try simp only [List.getElem_toArray, List.getElem_cons_succ, List.getElem_cons_zero])
        (refine wpAnyH_take (i := 4) (oi := ⟨_, _, _, _, _, _⟩) (v := ?tv18) rfl (by kernel_rfl) (by kernel_rfl) (by kernel_rfl) (fun _ _ _ h => h) (Or.inl ⟨by kernel_rfl, ?hy18⟩) hH ?rs18; (case hy18 => (intro wx hSw; (try dsimp only at hSw); go_simp; try with_reducible rfl)); try simp only [Act.put, List.setIfInBounds_toArray, List.set_cons_zero, List.set_cons_succ]; try simp only [List.getElem_toArray, List.getElem_cons_succ, List.getElem_cons_zero])
        (refine wpAnyH_take (i := 5) (oi := ⟨_, _, _, _, _, _⟩) (v := ?tv19) rfl (by kernel_rfl) (by kernel_rfl) (by kernel_rfl) (fun _ _ _ h => h) (Or.inl ⟨by kernel_rfl, ?hy19⟩) hH ?rs19; (case hy19 => (intro wx hSw; (try dsimp only at hSw); go_simp; try with_reducible rfl)); try simp only [Act.put, List.setIfInBounds_toArray, List.set_cons_zero, List.set_cons_succ]; try simp only [List.getElem_toArray, List.getElem_cons_succ, List.getElem_cons_zero])
        (refine wpAnyH_take (i := 6) (oi := ⟨_, _, _, _, _, _⟩) (v := ?tv20) rfl (by kernel_rfl) (by kernel_rfl) (by kernel_rfl) (fun _ _ _ h => h) (Or.inl ⟨by kernel_rfl, ?hy20⟩) hH ?rs20; (case hy20 => (intro wx hSw; (try dsimp only at hSw); go_simp; try with_reducible rfl)); try simp only [Act.put, List.setIfInBounds_toArray, List.set_cons_zero, List.set_cons_succ]; try simp only [List.getElem_toArray, List.getElem_cons_succ, List.getElem_cons_zero])
        (refine wpAnyH_take (i := 7) (oi := ⟨_, _, _, _, _, _⟩) (v := ?tv21) rfl (by kernel_rfl) (by kernel_rfl) (by kernel_rfl) (fun _ _ _ h => h) (Or.inl ⟨by kernel_rfl, ?hy21⟩) hH ?rs21; (case hy21 => (intro wx hSw; (try dsimp only at hSw); go_simp; try with_reducible rfl)); try simp only [Act.put, List.setIfInBounds_toArray, List.set_cons_zero, List.set_cons_succ]; try simp only [List.getElem_toArray, List.getElem_cons_succ, List.getElem_cons_zero])
        (refine wpAnyH_take (i := 8) (oi := ⟨_, _, _, _, _, _⟩) (v := ?tv22) rfl (by kernel_rfl) (by kernel_rfl) (by kernel_rfl) (fun _ _ _ h => h) (Or.inl ⟨by kernel_rfl, ?hy22⟩) hH ?rs22; (case hy22 => (intro wx hSw; (try dsimp only at hSw); go_simp; try with_reducible rfl)); try simp only [Act.put, List.setIfInBounds_toArray, List.set_cons_zero, List.set_cons_succ]; try simp only [List.getElem_toArray, List.getElem_cons_succ, List.getElem_cons_zero])
        (refine wpAnyH_take (i := 9) (oi := ⟨_, _, _, _, _, _⟩) (v := ?tv23) rfl (by kernel_rfl) (by kernel_rfl) (by kernel_rfl) (fun _ _ _ h => h) (Or.inl ⟨by kernel_rfl, ?hy23⟩) hH ?rs23; (case hy23 => (intro wx hSw; (try dsimp only at hSw); go_simp; try with_reducible rfl)); try simp only [Act.put, List.setIfInBounds_toArray, List.set_cons_zero, List.set_cons_succ]; try simp only [List.getElem_toArray, List.getElem_cons_succ, List.getElem_cons_zero])
        (refine wpAnyH_take (i := 10) (oi := ⟨_, _, _, _, _, _⟩) (v := ?tv24) rfl (by kernel_rfl) (by kernel_rfl) (by kernel_rfl) (fun _ _ _ h => h) (Or.inl ⟨by kernel_rfl, ?hy24⟩) hH ?rs24; (case hy24 => (intro wx hSw; (try dsimp only at hSw); go_simp; try with_reducible rfl)); try simp only [Act.put, List.setIfInBounds_toArray, List.set_cons_zero, List.set_cons_succ]; try simp only [List.getElem_toArray, List.getElem_cons_succ, List.getElem_cons_zero])
        (refine wpAnyH_ready (rs := [11]) (by kernel_rfl) (by simp) ?_; refine AllReadyH.cons rfl (fun K hK => ?_) AllReadyH.nil; go_simp)
        refine (hcmp _).mono ?_
        rintro e wa ⟨rfl, xa⟩
        have q1 := ext_trans hr0 xa
        (go_wp2_with fail; refine hK.out _ _ (hbk q1) (fun hH => ?_); clear hK K; try simp only [Act.put, List.setIfInBounds_toArray, List.set_cons_zero, List.set_cons_succ]; try simp only [List.getElem_toArray, List.getElem_cons_succ, List.getElem_cons_zero])
        (refine wpAnyH_take (i := 12) (oi := ⟨_, _, _, _, _, _⟩) (v := ?tv25) rfl (by kernel_rfl) (by kernel_rfl) (by kernel_rfl) (fun _ _ _ h => h) (Or.inl ⟨by kernel_rfl, ?hy25⟩) hH ?rs25; (case hy25 => (intro wx hSw; (try dsimp only at hSw); go_simp; try with_reducible rfl)); try simp only [Act.put, List.setIfInBounds_toArray, List.set_cons_zero, List.set_cons_succ]; try simp only [List.getElem_toArray, List.getElem_cons_succ, List.getElem_cons_zero])
        (refine wpAnyH_take (i := 13) (oi := ⟨_, _, _, _, _, _⟩) (v := ?tv26) rfl (by kernel_rfl) (by kernel_rfl) (by kernel_rfl) (fun _ _ _ h => h) (Or.inl ⟨by kernel_rfl, ?hy26⟩) hH ?rs26; (case hy26 => (intro wx hSw; (try dsimp only at hSw); go_simp; try with_reducible rfl)); try simp only [Act.put, List.setIfInBounds_toArray, List.set_cons_zero, List.set_cons_succ]; try simp only [List.getElem_toArray, List.getElem_cons_succ, List.getElem_cons_zero])
        refine wpAnyH_done (by kernel_rfl) ?_ _
        go_wp2_with fail
        exact ⟨⟨h2, j, by go_num, by go_num, hb2, ext_trans hx q1⟩, by simp [intOf] <;> omega⟩
      have hbl : decide ((i : Int) < (j : Int)) = false := dfalse (by omega)
      have hbl' : decide (i < j) = false := dfalse hij
      obtain rfl : i = j := by omega
      obtain ⟨e, A1, A2, B1, B2, rl, hcut, hA1, hA2, hB1, hB2⟩ := mg.out.parts sA.out sB.out (hpp.out ▸ hD.out ▸ hbs.out)
      have ho : OwnF wr (slF g n c) D := OwnR.ext h hx
      have hm1 : Mod (fun k => k = g) w wr := ext_mod (Mod.refl _ _) hx
      have hDl := hDn.out
      have hDv := hD.out
      rw [← hcut.hA, ← hcut.hB] at hDv
      obtain ⟨D1, hD1⟩ : ∃ D1, D1 = X ++ A1 ++ B1 ++ (A2 ++ (B2 ++ Z)) := ⟨_, rfl⟩
      obtain ⟨PL, hPL⟩ : ∃ PL, PL = A1 ++ B1 := ⟨_, rfl⟩
      obtain ⟨PR, hPR⟩ : ∃ PR, PR = A2 ++ B2 := ⟨_, rfl⟩
      obtain ⟨D2, hD2⟩ : ∃ D2 : List Fl → List Fl, D2 = fun S => X ++ S ++ A2 ++ B2 ++ Z := ⟨_, rfl⟩
      obtain ⟨D3, hD3⟩ : ∃ D3 : List Fl → List Fl → List Fl, D3 = fun S T => X ++ S ++ T ++ Z := ⟨_, rfl⟩
      have hln : X.length + A1.length + A2.length + B1.length + B2.length + Z.length = n := by
        rw [← hDl, hDv]; simp only [List.length_append]; omega
      have hno : (A2.length = 0 ∨ B1.length = 0) → D = D1 := by
        rintro (q | q)
        · rw [hDv, hD1, List.eq_nil_of_length_eq_zero q]; simp only [List.append_assoc, List.append_nil, List.nil_append]
        · rw [hDv, hD1, List.eq_nil_of_length_eq_zero q]; simp only [List.append_assoc, List.append_nil, List.nil_append]
      have hnl : (A1.length = 0 ∨ B1.length = 0) → Srt PL := fun q => by rw [hPL]; exact srt_one hA1 hB1 q
      have hnr : (A2.length = 0 ∨ B2.length = 0) → Srt PR := fun q => by rw [hPR]; exact srt_one hA2 hB2 q
      have hD12 : D1 = D2 PL := by rw [hD1, hD2, hPL]; simp only [List.append_assoc]
      have hD23 : ∀ {S : List Fl}, D2 S = D3 S PR := by intro S; rw [hD2, hD3, hPR]; simp only [List.append_assoc]
      have hfin : ∀ (S1 S2 : List Fl) (w' : World), S1.Perm PL → Srt S1 → S2.Perm PR → Srt S2 → OwnF w' (slF g n c) (D3 S1 S2) → Mod (fun k => k = g) w w' → ∃ S, S.Perm (A ++ B) ∧ Srt S ∧ OwnF w' (slF g n c) (X ++ S ++ Z) ∧ Mod (fun k => k = g) w w' := by
        intro S1 S2 w' p1 s1 p2 s2 o m
        rw [hPL] at p1
        rw [hPR] at p2
        obtain ⟨f1, f2⟩ := hcut.fin p1 s1 p2 s2
        rw [hD3] at o
        refine ⟨S1 ++ S2, f1, f2, ?_, m⟩
        rw [← List.append_assoc]
        exact o
      have kR : ∀ wx, OwnF wx (slF g n c) D → 1 ≤ A2.length → 1 ≤ B1.length → Calls Try.prog 73 #[slF g n c, .int .i64 (i : Nat), .int .i64 (m : Nat), .int .i64 (e : Nat), cF] wx fun e w' => e = .returned (.tuple #[]) ∧ OwnF w' (slF g n c) D1 ∧ Mod (fun k => k = g) wx w' := by
        intro wx o n1 n2
        have e0 : D = (X ++ A1) ++ A2 ++ B1 ++ (B2 ++ Z) := by rw [hDv]; simp only [List.append_assoc]
        have e1 : (X ++ A1) ++ B1 ++ A2 ++ (B2 ++ Z) = D1 := by rw [hD1]; simp only [List.append_assoc]
        rw [e0] at o
        have k := rotate_any o (by simp only [List.length_append]; omega) n1 n2 hl
        rw [e1, List.length_append, show X.length + A1.length = i from by have := mg.out.ha; omega, show i + A2.length = m from by omega, show m + B1.length = e from by omega] at k
        exact k
      have kL : ∀ wx, OwnF wx (slF g n c) D1 → 1 ≤ A1.length → 1 ≤ B1.length → Calls Try.prog 71 #[slF g n c, .int .i64 (a : Nat), .int .i64 (i : Nat), .int .i64 (mid : Nat), cF] wx fun e w' => e = .returned (.tuple #[]) ∧ ∃ S, S.Perm PL ∧ Srt S ∧ OwnF w' (slF g n c) (D2 S) ∧ Mod (fun k => k = g) wx w' := by
        intro wx o n1 n2
        rw [hD1] at o
        have k := ih.out.call (by have := mg.out.lohi; have := mg.out.hm; have := mg.out.hb; omega) o (by simp only [List.length_append]; omega) hl mg.out.ha (show i = a + A1.length by omega) (show mid = i + B1.length by omega) n1 n2 hA1 hB1
        refine k.mono ?_
        rintro e w' ⟨rfl, S, p, s, o, m⟩
        refine ⟨rfl, S, by rw [hPL]; exact p, s, ?_, m⟩
        rw [hD2]
        simpa only [List.append_assoc] using o
      have kK : ∀ wx S1, S1.length = PL.length → OwnF wx (slF g n c) (D2 S1) → 1 ≤ A2.length → 1 ≤ B2.length → Calls Try.prog 71 #[slF g n c, .int .i64 (mid : Nat), .int .i64 (e : Nat), .int .i64 (b : Nat), cF] wx fun e w' => e = .returned (.tuple #[]) ∧ ∃ S, S.Perm PR ∧ Srt S ∧ OwnF w' (slF g n c) (D3 S1 S) ∧ Mod (fun k => k = g) wx w' := by
        intro wx S1 hS o n1 n2
        rw [hD2] at o
        rw [hPL, List.length_append] at hS
        have k := ih.out.call (by have := mg.out.lohi; have := mg.out.hm; have := mg.out.hb; omega) (X := X ++ S1) o (by simp only [List.length_append]; omega) hl (show mid = (X ++ S1).length by rw [List.length_append]; have := mg.out.ha; omega) (show e = mid + A2.length by omega) (show b = e + B2.length by omega) n1 n2 hA2 hB2
        refine k.mono ?_
        rintro e w' ⟨rfl, S, p, s, o, m⟩
        exact ⟨rfl, S, by rw [hPR]; exact p, s, by rw [hD3]; exact o, m⟩
      have z1 : IntKind.i64.wrap ((nn : Int) - (i : Int)) = (e : Int) := by rw [IntKind.wrap_i64]; omega
      have z1' : (nn : Int) - (i : Int) = (e : Int) := by omega
      have hAB : 1 ≤ A1.length + A2.length ∧ 1 ≤ B1.length + B2.length := by have := mg.out.hA; have := mg.out.hB; have := mg.out.hm; have := mg.out.hb; omega
      have hln := Lib.hid hln
      replace hm1 := Lib.hid hm1
      clear h hx hbs k1 k2 k3 hcut hA1 hA2 hB1 hB2 hDv hD1 hPL hPR hD2 hD3 ih sA sB hdn hij
      obtain ⟨s, hs⟩ : ∃ s, s = i := ⟨_, rfl⟩
      subst hs
      by_cases c1 : s < m
      case neg =>
        by_cases c4 : s < mid
        case neg =>
          have q1 : decide ((s : Int) < (m : Int)) = false := dfalse (by omega)
          have q1' : decide (s < m) = false := dfalse (by omega)
          have q3 : decide ((a : Int) < (s : Int)) = true := dtrue (by omega)
          have q3' : decide (a < s) = true := dtrue (by omega)
          have q5 : decide ((mid : Int) < (e : Int)) = false := dfalse (by omega)
          have q5' : decide (mid < e) = false := dfalse (by omega)
          have q4 : decide ((s : Int) < (mid : Int)) = false := dfalse (by omega)
          have q4' : decide (s < mid) = false := dfalse (by omega)
          have hD01 := hno (by omega)
          have hL := hnl (by omega)
          have hR := hnr (by omega)
          replace rl := Lib.hid rl
          go_wp2_with fail
          have o1 := ho
          rw [hD01] at o1
          have m1 := hm1.out
          have o2 := o1
          rw [hD12] at o2
          have m2 := m1
          have p1 := List.Perm.refl PL
          have s1 := hL
          have o3 := o2
          rw [hD23] at o3
          have m3 := m2
          have p2 := List.Perm.refl PR
          have s2 := hR
          go_end0
          exact ⟨rfl, hfin _ _ _ p1 s1 p2 s2 o3 m3⟩
        have q1 : decide ((s : Int) < (m : Int)) = false := dfalse (by omega)
        have q1' : decide (s < m) = false := dfalse (by omega)
        have q3 : decide ((a : Int) < (s : Int)) = true := dtrue (by omega)
        have q3' : decide (a < s) = true := dtrue (by omega)
        have q5 : decide ((mid : Int) < (e : Int)) = false := dfalse (by omega)
        have q5' : decide (mid < e) = false := dfalse (by omega)
        have q4 : decide ((s : Int) < (mid : Int)) = true := dtrue (by omega)
        have q4' : decide (s < mid) = true := dtrue (by omega)
        have hD01 := hno (by omega)
        have hR := hnr (by omega)
        replace rl := Lib.hid rl
        go_wp2_with fail
        have o1 := ho
        rw [hD01] at o1
        have m1 := hm1.out
        refine (kL _ o1 (by have := rl.out; omega) (by have := rl.out; omega)).mono ?_
        rintro e2 w2 ⟨rfl, S1, p1, s1, o2, m2⟩
        replace m2 := m1.then_ m2 (fun _ _ h => h)
        go_wp2_with fail
        have o3 := o2
        rw [hD23] at o3
        have m3 := m2
        have p2 := List.Perm.refl PR
        have s2 := hR
        go_end0
        exact ⟨rfl, hfin _ _ _ p1 s1 p2 s2 o3 m3⟩
      by_cases c2 : m < e
      case neg =>
        by_cases c3 : a < s
        case neg =>
          have q1 : decide ((s : Int) < (m : Int)) = true := dtrue (by omega)
          have q1' : decide (s < m) = true := dtrue (by omega)
          have q2 : decide ((m : Int) < (e : Int)) = false := dfalse (by omega)
          have q2' : decide (m < e) = false := dfalse (by omega)
          have q4 : decide ((s : Int) < (mid : Int)) = false := dfalse (by omega)
          have q4' : decide (s < mid) = false := dfalse (by omega)
          have q5 : decide ((mid : Int) < (e : Int)) = true := dtrue (by omega)
          have q5' : decide (mid < e) = true := dtrue (by omega)
          have q6 : decide ((e : Int) < (b : Int)) = true := dtrue (by omega)
          have q6' : decide (e < b) = true := dtrue (by omega)
          have q3 : decide ((a : Int) < (s : Int)) = false := dfalse (by omega)
          have q3' : decide (a < s) = false := dfalse (by omega)
          have hD01 := hno (by omega)
          have hL := hnl (by omega)
          replace rl := Lib.hid rl
          go_wp2_with fail
          have o1 := ho
          rw [hD01] at o1
          have m1 := hm1.out
          have o2 := o1
          rw [hD12] at o2
          have m2 := m1
          have p1 := List.Perm.refl PL
          have s1 := hL
          refine (kK _ _ p1.length_eq o2 (by have := rl.out; omega) (by have := rl.out; omega)).mono ?_
          rintro e3 w3 ⟨rfl, S2, p2, s2, o3, m3⟩
          replace m3 := m2.then_ m3 (fun _ _ h => h)
          go_wp2_with fail
          go_end0
          exact ⟨rfl, hfin _ _ _ p1 s1 p2 s2 o3 m3⟩
        have q1 : decide ((s : Int) < (m : Int)) = true := dtrue (by omega)
        have q1' : decide (s < m) = true := dtrue (by omega)
        have q2 : decide ((m : Int) < (e : Int)) = false := dfalse (by omega)
        have q2' : decide (m < e) = false := dfalse (by omega)
        have q4 : decide ((s : Int) < (mid : Int)) = false := dfalse (by omega)
        have q4' : decide (s < mid) = false := dfalse (by omega)
        have q5 : decide ((mid : Int) < (e : Int)) = true := dtrue (by omega)
        have q5' : decide (mid < e) = true := dtrue (by omega)
        have q6 : decide ((e : Int) < (b : Int)) = true := dtrue (by omega)
        have q6' : decide (e < b) = true := dtrue (by omega)
        have q3 : decide ((a : Int) < (s : Int)) = true := dtrue (by omega)
        have q3' : decide (a < s) = true := dtrue (by omega)
        have hD01 := hno (by omega)
        have hL := hnl (by omega)
        replace rl := Lib.hid rl
        go_wp2_with fail
        have o1 := ho
        rw [hD01] at o1
        have m1 := hm1.out
        have o2 := o1
        rw [hD12] at o2
        have m2 := m1
        have p1 := List.Perm.refl PL
        have s1 := hL
        refine (kK _ _ p1.length_eq o2 (by have := rl.out; omega) (by have := rl.out; omega)).mono ?_
        rintro e3 w3 ⟨rfl, S2, p2, s2, o3, m3⟩
        replace m3 := m2.then_ m3 (fun _ _ h => h)
        go_wp2_with fail
        go_end0
        exact ⟨rfl, hfin _ _ _ p1 s1 p2 s2 o3 m3⟩
      by_cases c3 : a < s
      case neg =>
        by_cases c6 : e < b
        case neg =>
          have q1 : decide ((s : Int) < (m : Int)) = true := dtrue (by omega)
          have q1' : decide (s < m) = true := dtrue (by omega)
          have q2 : decide ((m : Int) < (e : Int)) = true := dtrue (by omega)
          have q2' : decide (m < e) = true := dtrue (by omega)
          have q4 : decide ((s : Int) < (mid : Int)) = true := dtrue (by omega)
          have q4' : decide (s < mid) = true := dtrue (by omega)
          have q5 : decide ((mid : Int) < (e : Int)) = true := dtrue (by omega)
          have q5' : decide (mid < e) = true := dtrue (by omega)
          have q3 : decide ((a : Int) < (s : Int)) = false := dfalse (by omega)
          have q3' : decide (a < s) = false := dfalse (by omega)
          have q6 : decide ((e : Int) < (b : Int)) = false := dfalse (by omega)
          have q6' : decide (e < b) = false := dfalse (by omega)
          have hL := hnl (by omega)
          have hR := hnr (by omega)
          replace rl := Lib.hid rl
          go_wp2_with fail
          refine (kR _ ho (by have := rl.out; omega) (by have := rl.out; omega)).mono ?_
          rintro e1 w1 ⟨rfl, o1, m1⟩
          replace m1 := hm1.out.then_ m1 (fun _ _ h => h)
          go_wp2_with fail
          have o2 := o1
          rw [hD12] at o2
          have m2 := m1
          have p1 := List.Perm.refl PL
          have s1 := hL
          have o3 := o2
          rw [hD23] at o3
          have m3 := m2
          have p2 := List.Perm.refl PR
          have s2 := hR
          go_end0
          exact ⟨rfl, hfin _ _ _ p1 s1 p2 s2 o3 m3⟩
        have q1 : decide ((s : Int) < (m : Int)) = true := dtrue (by omega)
        have q1' : decide (s < m) = true := dtrue (by omega)
        have q2 : decide ((m : Int) < (e : Int)) = true := dtrue (by omega)
        have q2' : decide (m < e) = true := dtrue (by omega)
        have q4 : decide ((s : Int) < (mid : Int)) = true := dtrue (by omega)
        have q4' : decide (s < mid) = true := dtrue (by omega)
        have q5 : decide ((mid : Int) < (e : Int)) = true := dtrue (by omega)
        have q5' : decide (mid < e) = true := dtrue (by omega)
        have q3 : decide ((a : Int) < (s : Int)) = false := dfalse (by omega)
        have q3' : decide (a < s) = false := dfalse (by omega)
        have q6 : decide ((e : Int) < (b : Int)) = true := dtrue (by omega)
        have q6' : decide (e < b) = true := dtrue (by omega)
        have hL := hnl (by omega)
        replace rl := Lib.hid rl
        go_wp2_with fail
        refine (kR _ ho (by have := rl.out; omega) (by have := rl.out; omega)).mono ?_
        rintro e1 w1 ⟨rfl, o1, m1⟩
        replace m1 := hm1.out.then_ m1 (fun _ _ h => h)
        go_wp2_with fail
        have o2 := o1
        rw [hD12] at o2
        have m2 := m1
        have p1 := List.Perm.refl PL
        have s1 := hL
        refine (kK _ _ p1.length_eq o2 (by have := rl.out; omega) (by have := rl.out; omega)).mono ?_
        rintro e3 w3 ⟨rfl, S2, p2, s2, o3, m3⟩
        replace m3 := m2.then_ m3 (fun _ _ h => h)
        go_wp2_with fail
        go_end0
        exact ⟨rfl, hfin _ _ _ p1 s1 p2 s2 o3 m3⟩
      by_cases c6 : e < b
      case neg =>
        have q1 : decide ((s : Int) < (m : Int)) = true := dtrue (by omega)
        have q1' : decide (s < m) = true := dtrue (by omega)
        have q2 : decide ((m : Int) < (e : Int)) = true := dtrue (by omega)
        have q2' : decide (m < e) = true := dtrue (by omega)
        have q4 : decide ((s : Int) < (mid : Int)) = true := dtrue (by omega)
        have q4' : decide (s < mid) = true := dtrue (by omega)
        have q5 : decide ((mid : Int) < (e : Int)) = true := dtrue (by omega)
        have q5' : decide (mid < e) = true := dtrue (by omega)
        have q3 : decide ((a : Int) < (s : Int)) = true := dtrue (by omega)
        have q3' : decide (a < s) = true := dtrue (by omega)
        have q6 : decide ((e : Int) < (b : Int)) = false := dfalse (by omega)
        have q6' : decide (e < b) = false := dfalse (by omega)
        have hR := hnr (by omega)
        replace rl := Lib.hid rl
        go_wp2_with fail
        refine (kR _ ho (by have := rl.out; omega) (by have := rl.out; omega)).mono ?_
        rintro e1 w1 ⟨rfl, o1, m1⟩
        replace m1 := hm1.out.then_ m1 (fun _ _ h => h)
        go_wp2_with fail
        refine (kL _ o1 (by have := rl.out; omega) (by have := rl.out; omega)).mono ?_
        rintro e2 w2 ⟨rfl, S1, p1, s1, o2, m2⟩
        replace m2 := m1.then_ m2 (fun _ _ h => h)
        go_wp2_with fail
        have o3 := o2
        rw [hD23] at o3
        have m3 := m2
        have p2 := List.Perm.refl PR
        have s2 := hR
        go_end0
        exact ⟨rfl, hfin _ _ _ p1 s1 p2 s2 o3 m3⟩
      have q1 : decide ((s : Int) < (m : Int)) = true := dtrue (by omega)
      have q1' : decide (s < m) = true := dtrue (by omega)
      have q2 : decide ((m : Int) < (e : Int)) = true := dtrue (by omega)
      have q2' : decide (m < e) = true := dtrue (by omega)
      have q4 : decide ((s : Int) < (mid : Int)) = true := dtrue (by omega)
      have q4' : decide (s < mid) = true := dtrue (by omega)
      have q5 : decide ((mid : Int) < (e : Int)) = true := dtrue (by omega)
      have q5' : decide (mid < e) = true := dtrue (by omega)
      have q3 : decide ((a : Int) < (s : Int)) = true := dtrue (by omega)
      have q3' : decide (a < s) = true := dtrue (by omega)
      have q6 : decide ((e : Int) < (b : Int)) = true := dtrue (by omega)
      have q6' : decide (e < b) = true := dtrue (by omega)
      replace rl := Lib.hid rl
      go_wp2_with fail
      refine (kR _ ho (by have := rl.out; omega) (by have := rl.out; omega)).mono ?_
      rintro e1 w1 ⟨rfl, o1, m1⟩
      replace m1 := hm1.out.then_ m1 (fun _ _ h => h)
      go_wp2_with fail
      refine (kL _ o1 (by have := rl.out; omega) (by have := rl.out; omega)).mono ?_
      rintro e2 w2 ⟨rfl, S1, p1, s1, o2, m2⟩
      replace m2 := m1.then_ m2 (fun _ _ h => h)
      go_wp2_with fail
      refine (kK _ _ p1.length_eq o2 (by have := rl.out; omega) (by have := rl.out; omega)).mono ?_
      rintro e3 w3 ⟨rfl, S2, p2, s2, o3, m3⟩
      replace m3 := m2.then_ m3 (fun _ _ h => h)
      go_wp2_with fail
      go_end0
      exact ⟨rfl, hfin _ _ _ p1 s1 p2 s2 o3 m3⟩
  · have y1 : decide ((mid : Int) < (m : Int)) = false := dfalse (by omega)
    have y1' : decide (mid < m) = false := dfalse (by omega)
    replace hhi := Lib.hid hhi
    replace hlo := Lib.hid hlo
    replace hnn := Lib.hid hnn
    go_enter Try.func71, Try.ntmps71
    go_wp2_with fail
    go_loopw [20, 21] (fun iv jv wr => ∃ (i j : Nat), iv = .int .i64 i ∧ jv = .int .i64 j ∧ Hid (Hv (Qs D pp) lo hi i j) ∧ Ext w wr) (fun i j _ => (intOf j).toNat - (intOf i).toNat)
    case atStart => exact ⟨lo, hi, by first | rfl | rw [hlo.out], by first | rfl | rw [hhi.out], Lib.hid (Hv.start _ hlh), Mod.refl _ _⟩
    case round =>
      obtain ⟨i, j, rfl, rfl, hbs, hx⟩ := hrel
      have k1 := hbs.out.l1
      have k2 := hbs.out.l2
      have k3 := hbs.out.l3
      by_cases hij : i < j
      case pos =>
        have hbl : decide ((i : Int) < (j : Int)) = true := dtrue (by omega)
        have hbl' : decide (i < j) = true := dtrue hij
        obtain ⟨hh, hhv⟩ : ∃ hh, hh = (i + j) / 2 := ⟨_, rfl⟩
        have hh1 : i ≤ hh := by omega
        have hh2 : hh < j := by omega
        have v1 : IntKind.i64.wrap ((i : Int) + (j : Int)) = ((i + j : Nat) : Int) := by rw [IntKind.wrap_i64]; omega
        have v1' : (i : Int) + (j : Int) = ((i + j : Nat) : Int) := by omega
        have v2 : IntKind.u64.wrap ((i + j : Nat) : Int) = ((i + j : Nat) : Int) := by rw [IntKind.wrap_u64]; omega
        have v3 : ((i + j : Nat) : Int) / 2 = (hh : Int) := by omega
        have v4 : IntKind.i64.wrap (hh : Int) = (hh : Int) := by rw [IntKind.wrap_i64]; omega
        have hcc := mg.out.at_ (c := hh) (by omega) (by omega)
        have hpp1 := hpp.out
        obtain ⟨pc, hpc⟩ : ∃ pc, pc = pp - hh := ⟨_, rfl⟩
        have h0 : (0 : Int) ≤ (hh : Int) := by omega
        have h1 : (hh : Int) < (n : Int) := by omega
        have h0p : (0 : Int) ≤ (pc : Int) := by omega
        have h1p : (pc : Int) < (n : Int) := by omega
        have w1 : IntKind.i64.wrap ((pp : Int) - (hh : Int)) = (pc : Int) := by rw [IntKind.wrap_i64]; omega
        have w1' : (pp : Int) - (hh : Int) = (pc : Int) := by omega
        have w2 : IntKind.i64.wrap (pc : Int) = (pc : Int) := by rw [IntKind.wrap_i64]; omega
        generalize hij2 : i + j = ij at *
        replace hhv := Lib.hid hhv
        replace hij2 := Lib.hid hij2
        have v5 : IntKind.i64.wrap ((hh : Int) + 1) = ((hh + 1 : Nat) : Int) := by rw [IntKind.wrap_i64]; omega
        have v5' : (hh : Int) + 1 = ((hh + 1 : Nat) : Int) := by omega
        obtain ⟨h2, hh3⟩ : ∃ h2, h2 = hh + 1 := ⟨_, rfl⟩
        rw [← hh3] at v5 v5'
        have hd1 : j - h2 < j - i := by omega
        have hd2 : hh - i < j - i := by omega
        have hlh1 : hh < D.length := by have := hDn.out; omega
        have hlh2 : pc < D.length := by have := hDn.out; omega
        obtain ⟨z, hz⟩ : ∃ z, D[hh]? = some z := ⟨D[hh], List.getElem?_eq_getElem hlh1⟩
        obtain ⟨y, hy⟩ : ∃ y, D[pc]? = some y := ⟨D[pc], List.getElem?_eq_getElem hlh2⟩
        have hq : Qs D pp hh ↔ ¬ aheadF y z := by
          unfold Qs
          rw [← hpc]
          constructor
          · rintro ⟨p, q, hp, hq, k⟩; rw [hz] at hp; rw [hy] at hq; cases hp; cases hq; exact k
          · exact fun k => ⟨z, y, hz, hy, k⟩
        have hbk : ∀ {wx : World}, Ext wr wx → wx.cell? ⟨g, pc * 5, none⟩ = some (.int .i64 y.id) ∧ wx.cell? ⟨g, pc * 5 + 1, none⟩ = some (.int .i64 y.lev) ∧ wx.cell? ⟨g, pc * 5 + 2, none⟩ = some (.int .i64 y.size) ∧ wx.cell? ⟨g, pc * 5 + 3, none⟩ = some (sv y.first) ∧ wx.cell? ⟨g, pc * 5 + 4, none⟩ = some (sv y.last) ∧ wx.cell? ⟨g, hh * 5, none⟩ = some (.int .i64 z.id) ∧ wx.cell? ⟨g, hh * 5 + 1, none⟩ = some (.int .i64 z.lev) ∧ wx.cell? ⟨g, hh * 5 + 2, none⟩ = some (.int .i64 z.size) ∧ wx.cell? ⟨g, hh * 5 + 3, none⟩ = some (sv z.first) ∧ wx.cell? ⟨g, hh * 5 + 4, none⟩ = some (sv z.last) := by
          intro wx hxx
          have o : OwnF wx (slF g n c) D := OwnR.ext h (ext_trans hx hxx)
          obtain ⟨c0, c1, c2, c3, c4⟩ := OwnF.cellsp o hy
          obtain ⟨d0, d1, d2, d3, d4⟩ := OwnF.cellsp o hz
          exact ⟨c0, c1, c2, c3, c4, d0, d1, d2, d3, d4⟩
        have hcmp := fun wx => order_any (w := wx) y z
        have hlt2 := ordI_lt y z
        have hr0 : Ext wr wr.drew := (Mod.refl _ wr).drew
        replace hh3 := Lib.hid hh3
        clear hpp1 hpc hcc
        by_cases hah : aheadF y z
        case pos =>
          have hlt3 : decide (ordI y z < 0) = true := hlt2.trans (dtrue hah)
          have hb2 := Lib.hid (hbs.out.down hdn.out hh1 hh2 (fun k => hq.1 k hah))
          clear hlt2 hah hq hbs
          go_wp2_with fail
          refine wp_region_held_drew (S := fun wx => wx.cell? ⟨g, pc * 5, none⟩ = some (.int .i64 y.id) ∧ wx.cell? ⟨g, pc * 5 + 1, none⟩ = some (.int .i64 y.lev) ∧ wx.cell? ⟨g, pc * 5 + 2, none⟩ = some (.int .i64 y.size) ∧ wx.cell? ⟨g, pc * 5 + 3, none⟩ = some (sv y.first) ∧ wx.cell? ⟨g, pc * 5 + 4, none⟩ = some (sv y.last) ∧ wx.cell? ⟨g, hh * 5, none⟩ = some (.int .i64 z.id) ∧ wx.cell? ⟨g, hh * 5 + 1, none⟩ = some (.int .i64 z.lev) ∧ wx.cell? ⟨g, hh * 5 + 2, none⟩ = some (.int .i64 z.size) ∧ wx.cell? ⟨g, hh * 5 + 3, none⟩ = some (sv z.first) ∧ wx.cell? ⟨g, hh * 5 + 4, none⟩ = some (sv z.last)) (by kernel_rfl) (hbk hr0) (fun hH => ?_)
          (refine wpAnyH_take (i := 0) (oi := ⟨_, _, _, _, _, _⟩) (v := ?tv27) rfl (by kernel_rfl) (by kernel_rfl) (by kernel_rfl) (fun _ _ _ h => h) (Or.inl ⟨by kernel_rfl, ?hy27⟩) hH ?rs27; (case hy27 => (intro wx hSw; (try dsimp only at hSw); go_simp; try with_reducible rfl)); try simp only [Act.put, List.setIfInBounds_toArray, List.set_cons_zero, List.set_cons_succ]; try simp only [List.getElem_toArray, List.getElem_cons_succ, List.getElem_cons_zero])
          (refine wpAnyH_take (i := 1) (oi := ⟨_, _, _, _, _, _⟩) (v := ?tv28) rfl (by kernel_rfl) (by kernel_rfl) (by kernel_rfl) (fun _ _ _ h => h) (Or.inl ⟨by kernel_rfl, ?hy28⟩) hH ?rs28; (case hy28 => (intro wx hSw; (try dsimp only at hSw); go_simp; try with_reducible rfl)); try simp only [Act.put, List.setIfInBounds_toArray, List.set_cons_zero, List.set_cons_succ]; try simp only [List.getElem_toArray, List.getElem_cons_succ, List.getElem_cons_zero])
          (refine wpAnyH_take (i := 2) (oi := ⟨_, _, _, _, _, _⟩) (v := ?tv29) rfl (by kernel_rfl) (by kernel_rfl) (by kernel_rfl) (fun _ _ _ h => h) (Or.inl ⟨by kernel_rfl, ?hy29⟩) hH ?rs29; (case hy29 => (intro wx hSw; (try dsimp only at hSw); go_simp; try with_reducible rfl)); try simp only [Act.put, List.setIfInBounds_toArray, List.set_cons_zero, List.set_cons_succ]; try simp only [List.getElem_toArray, List.getElem_cons_succ, List.getElem_cons_zero])
          (refine wpAnyH_take (i := 3) (oi := ⟨_, _, _, _, _, _⟩) (v := ?tv30) rfl (by kernel_rfl) (by kernel_rfl) (by kernel_rfl) (fun _ _ _ h => h) (Or.inl ⟨by kernel_rfl, ?hy30⟩) hH ?rs30; (case hy30 => (intro wx hSw; (try dsimp only at hSw); go_simp; try with_reducible rfl)); try simp only [Act.put, List.setIfInBounds_toArray, List.set_cons_zero, List.set_cons_succ]; try simp only [List.getElem_toArray, List.getElem_cons_succ, List.getElem_cons_zero])
          (refine wpAnyH_take (i := 4) (oi := ⟨_, _, _, _, _, _⟩) (v := ?tv31) rfl (by kernel_rfl) (by kernel_rfl) (by kernel_rfl) (fun _ _ _ h => h) (Or.inl ⟨by kernel_rfl, ?hy31⟩) hH ?rs31; (case hy31 => (intro wx hSw; (try dsimp only at hSw); go_simp; try with_reducible rfl)); try simp only [Act.put, List.setIfInBounds_toArray, List.set_cons_zero, List.set_cons_succ]; try simp only [List.getElem_toArray, List.getElem_cons_succ, List.getElem_cons_zero])
          (refine wpAnyH_take (i := 5) (oi := ⟨_, _, _, _, _, _⟩) (v := ?tv32) rfl (by kernel_rfl) (by kernel_rfl) (by kernel_rfl) (fun _ _ _ h => h) (Or.inl ⟨by kernel_rfl, ?hy32⟩) hH ?rs32; (case hy32 => (intro wx hSw; (try dsimp only at hSw); go_simp; try with_reducible rfl)); try simp only [Act.put, List.setIfInBounds_toArray, List.set_cons_zero, List.set_cons_succ]; try simp only [List.getElem_toArray, List.getElem_cons_succ, List.getElem_cons_zero])
          (refine wpAnyH_take (i := 6) (oi := ⟨_, _, _, _, _, _⟩) (v := ?tv33) rfl (by kernel_rfl) (by kernel_rfl) (by kernel_rfl) (fun _ _ _ h => h) (Or.inl ⟨by kernel_rfl, ?hy33⟩) hH ?rs33; (case hy33 => (intro wx hSw; (try dsimp only at hSw); go_simp; try with_reducible rfl)); try simp only [Act.put, List.setIfInBounds_toArray, List.set_cons_zero, List.set_cons_succ]; try simp only [List.getElem_toArray, List.getElem_cons_succ, List.getElem_cons_zero])
          (refine wpAnyH_take (i := 7) (oi := ⟨_, _, _, _, _, _⟩) (v := ?tv34) rfl (by kernel_rfl) (by kernel_rfl) (by kernel_rfl) (fun _ _ _ h => h) (Or.inl ⟨by kernel_rfl, ?hy34⟩) hH ?rs34; (case hy34 => (intro wx hSw; (try dsimp only at hSw); go_simp; try with_reducible rfl)); try simp only [Act.put, List.setIfInBounds_toArray, List.set_cons_zero, List.set_cons_succ]; try simp only [List.getElem_toArray, List.getElem_cons_succ, List.getElem_cons_zero])
          (refine wpAnyH_take (i := 8) (oi := ⟨_, _, _, _, _, _⟩) (v := ?tv35) rfl (by kernel_rfl) (by kernel_rfl) (by kernel_rfl) (fun _ _ _ h => h) (Or.inl ⟨by kernel_rfl, ?hy35⟩) hH ?rs35; (case hy35 => (intro wx hSw; (try dsimp only at hSw); go_simp; try with_reducible rfl)); try simp only [Act.put, List.setIfInBounds_toArray, List.set_cons_zero, List.set_cons_succ]; try simp only [List.getElem_toArray, List.getElem_cons_succ, List.getElem_cons_zero])
          (refine wpAnyH_take (i := 9) (oi := ⟨_, _, _, _, _, _⟩) (v := ?tv36) rfl (by kernel_rfl) (by kernel_rfl) (by kernel_rfl) (fun _ _ _ h => h) (Or.inl ⟨by kernel_rfl, ?hy36⟩) hH ?rs36; (case hy36 => (intro wx hSw; (try dsimp only at hSw); go_simp; try with_reducible rfl)); try simp only [Act.put, List.setIfInBounds_toArray, List.set_cons_zero, List.set_cons_succ]; try simp only [List.getElem_toArray, List.getElem_cons_succ, List.getElem_cons_zero])
          (refine wpAnyH_take (i := 10) (oi := ⟨_, _, _, _, _, _⟩) (v := ?tv37) rfl (by kernel_rfl) (by kernel_rfl) (by kernel_rfl) (fun _ _ _ h => h) (Or.inl ⟨by kernel_rfl, ?hy37⟩) hH ?rs37; (case hy37 => (intro wx hSw; (try dsimp only at hSw); go_simp; try with_reducible rfl)); try simp only [Act.put, List.setIfInBounds_toArray, List.set_cons_zero, List.set_cons_succ]; try simp only [List.getElem_toArray, List.getElem_cons_succ, List.getElem_cons_zero])
          (refine wpAnyH_ready (rs := [11]) (by kernel_rfl) (by simp) ?_; refine AllReadyH.cons rfl (fun K hK => ?_) AllReadyH.nil; go_simp)
          refine (hcmp _).mono ?_
          rintro e wa ⟨rfl, xa⟩
          have q1 := ext_trans hr0 xa
          (go_wp2_with fail; refine hK.out _ _ (hbk q1) (fun hH => ?_); clear hK K; try simp only [Act.put, List.setIfInBounds_toArray, List.set_cons_zero, List.set_cons_succ]; try simp only [List.getElem_toArray, List.getElem_cons_succ, List.getElem_cons_zero])
          (refine wpAnyH_take (i := 12) (oi := ⟨_, _, _, _, _, _⟩) (v := ?tv38) rfl (by kernel_rfl) (by kernel_rfl) (by kernel_rfl) (fun _ _ _ h => h) (Or.inl ⟨by kernel_rfl, ?hy38⟩) hH ?rs38; (case hy38 => (intro wx hSw; (try dsimp only at hSw); go_simp; try with_reducible rfl)); try simp only [Act.put, List.setIfInBounds_toArray, List.set_cons_zero, List.set_cons_succ]; try simp only [List.getElem_toArray, List.getElem_cons_succ, List.getElem_cons_zero])
          (refine wpAnyH_take (i := 13) (oi := ⟨_, _, _, _, _, _⟩) (v := ?tv39) rfl (by kernel_rfl) (by kernel_rfl) (by kernel_rfl) (fun _ _ _ h => h) (Or.inl ⟨by kernel_rfl, ?hy39⟩) hH ?rs39; (case hy39 => (intro wx hSw; (try dsimp only at hSw); go_simp; try with_reducible rfl)); try simp only [Act.put, List.setIfInBounds_toArray, List.set_cons_zero, List.set_cons_succ]; try simp only [List.getElem_toArray, List.getElem_cons_succ, List.getElem_cons_zero])
          refine wpAnyH_done (by kernel_rfl) ?_ _
          go_wp2_with fail
          exact ⟨⟨i, hh, by go_num, by go_num, hb2, ext_trans hx q1⟩, by simp [intOf] <;> omega⟩
        have hlt3 : decide (ordI y z < 0) = false := hlt2.trans (dfalse hah)
        have hb2 := Lib.hid (hh3.out ▸ hbs.out.up hdn.out hh1 hh2 (hq.2 hah))
        clear hlt2 hah hq hbs
        go_wp2_with fail
        refine wp_region_held_drew (S := fun wx => wx.cell? ⟨g, pc * 5, none⟩ = some (.int .i64 y.id) ∧ wx.cell? ⟨g, pc * 5 + 1, none⟩ = some (.int .i64 y.lev) ∧ wx.cell? ⟨g, pc * 5 + 2, none⟩ = some (.int .i64 y.size) ∧ wx.cell? ⟨g, pc * 5 + 3, none⟩ = some (sv y.first) ∧ wx.cell? ⟨g, pc * 5 + 4, none⟩ = some (sv y.last) ∧ wx.cell? ⟨g, hh * 5, none⟩ = some (.int .i64 z.id) ∧ wx.cell? ⟨g, hh * 5 + 1, none⟩ = some (.int .i64 z.lev) ∧ wx.cell? ⟨g, hh * 5 + 2, none⟩ = some (.int .i64 z.size) ∧ wx.cell? ⟨g, hh * 5 + 3, none⟩ = some (sv z.first) ∧ wx.cell? ⟨g, hh * 5 + 4, none⟩ = some (sv z.last)) (by kernel_rfl) (hbk hr0) (fun hH => ?_)
        (refine wpAnyH_take (i := 0) (oi := ⟨_, _, _, _, _, _⟩) (v := ?tv40) rfl (by kernel_rfl) (by kernel_rfl) (by kernel_rfl) (fun _ _ _ h => h) (Or.inl ⟨by kernel_rfl, ?hy40⟩) hH ?rs40; (case hy40 => (intro wx hSw; (try dsimp only at hSw); go_simp; try with_reducible rfl)); try simp only [Act.put, List.setIfInBounds_toArray, List.set_cons_zero, List.set_cons_succ]; try simp only [List.getElem_toArray, List.getElem_cons_succ, List.getElem_cons_zero])
        (refine wpAnyH_take (i := 1) (oi := ⟨_, _, _, _, _, _⟩) (v := ?tv41) rfl (by kernel_rfl) (by kernel_rfl) (by kernel_rfl) (fun _ _ _ h => h) (Or.inl ⟨by kernel_rfl, ?hy41⟩) hH ?rs41; (case hy41 => (intro wx hSw; (try dsimp only at hSw); go_simp; try with_reducible rfl)); try simp only [Act.put, List.setIfInBounds_toArray, List.set_cons_zero, List.set_cons_succ]; try simp only [List.getElem_toArray, List.getElem_cons_succ, List.getElem_cons_zero])
        (refine wpAnyH_take (i := 2) (oi := ⟨_, _, _, _, _, _⟩) (v := ?tv42) rfl (by kernel_rfl) (by kernel_rfl) (by kernel_rfl) (fun _ _ _ h => h) (Or.inl ⟨by kernel_rfl, ?hy42⟩) hH ?rs42; (case hy42 => (intro wx hSw; (try dsimp only at hSw); go_simp; try with_reducible rfl)); try simp only [Act.put, List.setIfInBounds_toArray, List.set_cons_zero, List.set_cons_succ]; try simp only [List.getElem_toArray, List.getElem_cons_succ, List.getElem_cons_zero])
        (refine wpAnyH_take (i := 3) (oi := ⟨_, _, _, _, _, _⟩) (v := ?tv43) rfl (by kernel_rfl) (by kernel_rfl) (by kernel_rfl) (fun _ _ _ h => h) (Or.inl ⟨by kernel_rfl, ?hy43⟩) hH ?rs43; (case hy43 => (intro wx hSw; (try dsimp only at hSw); go_simp; try with_reducible rfl)); try simp only [Act.put, List.setIfInBounds_toArray, List.set_cons_zero, List.set_cons_succ]; try simp only [List.getElem_toArray, List.getElem_cons_succ, List.getElem_cons_zero])
        (refine wpAnyH_take (i := 4) (oi := ⟨_, _, _, _, _, _⟩) (v := ?tv44) rfl (by kernel_rfl) (by kernel_rfl) (by kernel_rfl) (fun _ _ _ h => h) (Or.inl ⟨by kernel_rfl, ?hy44⟩) hH ?rs44; (case hy44 => (intro wx hSw; (try dsimp only at hSw); go_simp; try with_reducible rfl)); try simp only [Act.put, List.setIfInBounds_toArray, List.set_cons_zero, List.set_cons_succ]; try simp only [List.getElem_toArray, List.getElem_cons_succ, List.getElem_cons_zero])
        (refine wpAnyH_take (i := 5) (oi := ⟨_, _, _, _, _, _⟩) (v := ?tv45) rfl (by kernel_rfl) (by kernel_rfl) (by kernel_rfl) (fun _ _ _ h => h) (Or.inl ⟨by kernel_rfl, ?hy45⟩) hH ?rs45; (case hy45 => (intro wx hSw; (try dsimp only at hSw); go_simp; try with_reducible rfl)); try simp only [Act.put, List.setIfInBounds_toArray, List.set_cons_zero, List.set_cons_succ]; try simp only [List.getElem_toArray, List.getElem_cons_succ, List.getElem_cons_zero])
        (refine wpAnyH_take (i := 6) (oi := ⟨_, _, _, _, _, _⟩) (v := ?tv46) rfl (by kernel_rfl) (by kernel_rfl) (by kernel_rfl) (fun _ _ _ h => h) (Or.inl ⟨by kernel_rfl, ?hy46⟩) hH ?rs46; (case hy46 => (intro wx hSw; (try dsimp only at hSw); go_simp; try with_reducible rfl)); try simp only [Act.put, List.setIfInBounds_toArray, List.set_cons_zero, List.set_cons_succ]; try simp only [List.getElem_toArray, List.getElem_cons_succ, List.getElem_cons_zero])
        (refine wpAnyH_take (i := 7) (oi := ⟨_, _, _, _, _, _⟩) (v := ?tv47) rfl (by kernel_rfl) (by kernel_rfl) (by kernel_rfl) (fun _ _ _ h => h) (Or.inl ⟨by kernel_rfl, ?hy47⟩) hH ?rs47; (case hy47 => (intro wx hSw; (try dsimp only at hSw); go_simp; try with_reducible rfl)); try simp only [Act.put, List.setIfInBounds_toArray, List.set_cons_zero, List.set_cons_succ]; try simp only [List.getElem_toArray, List.getElem_cons_succ, List.getElem_cons_zero])
        (refine wpAnyH_take (i := 8) (oi := ⟨_, _, _, _, _, _⟩) (v := ?tv48) rfl (by kernel_rfl) (by kernel_rfl) (by kernel_rfl) (fun _ _ _ h => h) (Or.inl ⟨by kernel_rfl, ?hy48⟩) hH ?rs48; (case hy48 => (intro wx hSw; (try dsimp only at hSw); go_simp; try with_reducible rfl)); try simp only [Act.put, List.setIfInBounds_toArray, List.set_cons_zero, List.set_cons_succ]; try simp only [List.getElem_toArray, List.getElem_cons_succ, List.getElem_cons_zero])
        (refine wpAnyH_take (i := 9) (oi := ⟨_, _, _, _, _, _⟩) (v := ?tv49) rfl (by kernel_rfl) (by kernel_rfl) (by kernel_rfl) (fun _ _ _ h => h) (Or.inl ⟨by kernel_rfl, ?hy49⟩) hH ?rs49; (case hy49 => (intro wx hSw; (try dsimp only at hSw); go_simp; try with_reducible rfl)); try simp only [Act.put, List.setIfInBounds_toArray, List.set_cons_zero, List.set_cons_succ]; try simp only [List.getElem_toArray, List.getElem_cons_succ, List.getElem_cons_zero])
        (refine wpAnyH_take (i := 10) (oi := ⟨_, _, _, _, _, _⟩) (v := ?tv50) rfl (by kernel_rfl) (by kernel_rfl) (by kernel_rfl) (fun _ _ _ h => h) (Or.inl ⟨by kernel_rfl, ?hy50⟩) hH ?rs50; (case hy50 => (intro wx hSw; (try dsimp only at hSw); go_simp; try with_reducible rfl)); try simp only [Act.put, List.setIfInBounds_toArray, List.set_cons_zero, List.set_cons_succ]; try simp only [List.getElem_toArray, List.getElem_cons_succ, List.getElem_cons_zero])
        (refine wpAnyH_ready (rs := [11]) (by kernel_rfl) (by simp) ?_; refine AllReadyH.cons rfl (fun K hK => ?_) AllReadyH.nil; go_simp)
        refine (hcmp _).mono ?_
        rintro e wa ⟨rfl, xa⟩
        have q1 := ext_trans hr0 xa
        (go_wp2_with fail; refine hK.out _ _ (hbk q1) (fun hH => ?_); clear hK K; try simp only [Act.put, List.setIfInBounds_toArray, List.set_cons_zero, List.set_cons_succ]; try simp only [List.getElem_toArray, List.getElem_cons_succ, List.getElem_cons_zero])
        (refine wpAnyH_take (i := 12) (oi := ⟨_, _, _, _, _, _⟩) (v := ?tv51) rfl (by kernel_rfl) (by kernel_rfl) (by kernel_rfl) (fun _ _ _ h => h) (Or.inl ⟨by kernel_rfl, ?hy51⟩) hH ?rs51; (case hy51 => (intro wx hSw; (try dsimp only at hSw); go_simp; try with_reducible rfl)); try simp only [Act.put, List.setIfInBounds_toArray, List.set_cons_zero, List.set_cons_succ]; try simp only [List.getElem_toArray, List.getElem_cons_succ, List.getElem_cons_zero])
        (refine wpAnyH_take (i := 13) (oi := ⟨_, _, _, _, _, _⟩) (v := ?tv52) rfl (by kernel_rfl) (by kernel_rfl) (by kernel_rfl) (fun _ _ _ h => h) (Or.inl ⟨by kernel_rfl, ?hy52⟩) hH ?rs52; (case hy52 => (intro wx hSw; (try dsimp only at hSw); go_simp; try with_reducible rfl)); try simp only [Act.put, List.setIfInBounds_toArray, List.set_cons_zero, List.set_cons_succ]; try simp only [List.getElem_toArray, List.getElem_cons_succ, List.getElem_cons_zero])
        refine wpAnyH_done (by kernel_rfl) ?_ _
        go_wp2_with fail
        exact ⟨⟨h2, j, by go_num, by go_num, hb2, ext_trans hx q1⟩, by simp [intOf] <;> omega⟩
      have hbl : decide ((i : Int) < (j : Int)) = false := dfalse (by omega)
      have hbl' : decide (i < j) = false := dfalse hij
      obtain rfl : i = j := by omega
      obtain ⟨e, A1, A2, B1, B2, rl, hcut, hA1, hA2, hB1, hB2⟩ := mg.out.parts sA.out sB.out (hpp.out ▸ hD.out ▸ hbs.out)
      have ho : OwnF wr (slF g n c) D := OwnR.ext h hx
      have hm1 : Mod (fun k => k = g) w wr := ext_mod (Mod.refl _ _) hx
      have hDl := hDn.out
      have hDv := hD.out
      rw [← hcut.hA, ← hcut.hB] at hDv
      obtain ⟨D1, hD1⟩ : ∃ D1, D1 = X ++ A1 ++ B1 ++ (A2 ++ (B2 ++ Z)) := ⟨_, rfl⟩
      obtain ⟨PL, hPL⟩ : ∃ PL, PL = A1 ++ B1 := ⟨_, rfl⟩
      obtain ⟨PR, hPR⟩ : ∃ PR, PR = A2 ++ B2 := ⟨_, rfl⟩
      obtain ⟨D2, hD2⟩ : ∃ D2 : List Fl → List Fl, D2 = fun S => X ++ S ++ A2 ++ B2 ++ Z := ⟨_, rfl⟩
      obtain ⟨D3, hD3⟩ : ∃ D3 : List Fl → List Fl → List Fl, D3 = fun S T => X ++ S ++ T ++ Z := ⟨_, rfl⟩
      have hln : X.length + A1.length + A2.length + B1.length + B2.length + Z.length = n := by
        rw [← hDl, hDv]; simp only [List.length_append]; omega
      have hno : (A2.length = 0 ∨ B1.length = 0) → D = D1 := by
        rintro (q | q)
        · rw [hDv, hD1, List.eq_nil_of_length_eq_zero q]; simp only [List.append_assoc, List.append_nil, List.nil_append]
        · rw [hDv, hD1, List.eq_nil_of_length_eq_zero q]; simp only [List.append_assoc, List.append_nil, List.nil_append]
      have hnl : (A1.length = 0 ∨ B1.length = 0) → Srt PL := fun q => by rw [hPL]; exact srt_one hA1 hB1 q
      have hnr : (A2.length = 0 ∨ B2.length = 0) → Srt PR := fun q => by rw [hPR]; exact srt_one hA2 hB2 q
      have hD12 : D1 = D2 PL := by rw [hD1, hD2, hPL]; simp only [List.append_assoc]
      have hD23 : ∀ {S : List Fl}, D2 S = D3 S PR := by intro S; rw [hD2, hD3, hPR]; simp only [List.append_assoc]
      have hfin : ∀ (S1 S2 : List Fl) (w' : World), S1.Perm PL → Srt S1 → S2.Perm PR → Srt S2 → OwnF w' (slF g n c) (D3 S1 S2) → Mod (fun k => k = g) w w' → ∃ S, S.Perm (A ++ B) ∧ Srt S ∧ OwnF w' (slF g n c) (X ++ S ++ Z) ∧ Mod (fun k => k = g) w w' := by
        intro S1 S2 w' p1 s1 p2 s2 o m
        rw [hPL] at p1
        rw [hPR] at p2
        obtain ⟨f1, f2⟩ := hcut.fin p1 s1 p2 s2
        rw [hD3] at o
        refine ⟨S1 ++ S2, f1, f2, ?_, m⟩
        rw [← List.append_assoc]
        exact o
      have kR : ∀ wx, OwnF wx (slF g n c) D → 1 ≤ A2.length → 1 ≤ B1.length → Calls Try.prog 73 #[slF g n c, .int .i64 (i : Nat), .int .i64 (m : Nat), .int .i64 (e : Nat), cF] wx fun e w' => e = .returned (.tuple #[]) ∧ OwnF w' (slF g n c) D1 ∧ Mod (fun k => k = g) wx w' := by
        intro wx o n1 n2
        have e0 : D = (X ++ A1) ++ A2 ++ B1 ++ (B2 ++ Z) := by rw [hDv]; simp only [List.append_assoc]
        have e1 : (X ++ A1) ++ B1 ++ A2 ++ (B2 ++ Z) = D1 := by rw [hD1]; simp only [List.append_assoc]
        rw [e0] at o
        have k := rotate_any o (by simp only [List.length_append]; omega) n1 n2 hl
        rw [e1, List.length_append, show X.length + A1.length = i from by have := mg.out.ha; omega, show i + A2.length = m from by omega, show m + B1.length = e from by omega] at k
        exact k
      have kL : ∀ wx, OwnF wx (slF g n c) D1 → 1 ≤ A1.length → 1 ≤ B1.length → Calls Try.prog 71 #[slF g n c, .int .i64 (a : Nat), .int .i64 (i : Nat), .int .i64 (mid : Nat), cF] wx fun e w' => e = .returned (.tuple #[]) ∧ ∃ S, S.Perm PL ∧ Srt S ∧ OwnF w' (slF g n c) (D2 S) ∧ Mod (fun k => k = g) wx w' := by
        intro wx o n1 n2
        rw [hD1] at o
        have k := ih.out.call (by have := mg.out.lohi; have := mg.out.hm; have := mg.out.hb; omega) o (by simp only [List.length_append]; omega) hl mg.out.ha (show i = a + A1.length by omega) (show mid = i + B1.length by omega) n1 n2 hA1 hB1
        refine k.mono ?_
        rintro e w' ⟨rfl, S, p, s, o, m⟩
        refine ⟨rfl, S, by rw [hPL]; exact p, s, ?_, m⟩
        rw [hD2]
        simpa only [List.append_assoc] using o
      have kK : ∀ wx S1, S1.length = PL.length → OwnF wx (slF g n c) (D2 S1) → 1 ≤ A2.length → 1 ≤ B2.length → Calls Try.prog 71 #[slF g n c, .int .i64 (mid : Nat), .int .i64 (e : Nat), .int .i64 (b : Nat), cF] wx fun e w' => e = .returned (.tuple #[]) ∧ ∃ S, S.Perm PR ∧ Srt S ∧ OwnF w' (slF g n c) (D3 S1 S) ∧ Mod (fun k => k = g) wx w' := by
        intro wx S1 hS o n1 n2
        rw [hD2] at o
        rw [hPL, List.length_append] at hS
        have k := ih.out.call (by have := mg.out.lohi; have := mg.out.hm; have := mg.out.hb; omega) (X := X ++ S1) o (by simp only [List.length_append]; omega) hl (show mid = (X ++ S1).length by rw [List.length_append]; have := mg.out.ha; omega) (show e = mid + A2.length by omega) (show b = e + B2.length by omega) n1 n2 hA2 hB2
        refine k.mono ?_
        rintro e w' ⟨rfl, S, p, s, o, m⟩
        exact ⟨rfl, S, by rw [hPR]; exact p, s, by rw [hD3]; exact o, m⟩
      have z1 : IntKind.i64.wrap ((nn : Int) - (i : Int)) = (e : Int) := by rw [IntKind.wrap_i64]; omega
      have z1' : (nn : Int) - (i : Int) = (e : Int) := by omega
      have hAB : 1 ≤ A1.length + A2.length ∧ 1 ≤ B1.length + B2.length := by have := mg.out.hA; have := mg.out.hB; have := mg.out.hm; have := mg.out.hb; omega
      have hln := Lib.hid hln
      replace hm1 := Lib.hid hm1
      clear h hx hbs k1 k2 k3 hcut hA1 hA2 hB1 hB2 hDv hD1 hPL hPR hD2 hD3 ih sA sB hdn hij
      obtain ⟨s, hs⟩ : ∃ s, s = i := ⟨_, rfl⟩
      subst hs
      by_cases c1 : s < m
      case neg =>
        by_cases c4 : s < mid
        case neg =>
          have q1 : decide ((s : Int) < (m : Int)) = false := dfalse (by omega)
          have q1' : decide (s < m) = false := dfalse (by omega)
          have q3 : decide ((a : Int) < (s : Int)) = true := dtrue (by omega)
          have q3' : decide (a < s) = true := dtrue (by omega)
          have q5 : decide ((mid : Int) < (e : Int)) = false := dfalse (by omega)
          have q5' : decide (mid < e) = false := dfalse (by omega)
          have q4 : decide ((s : Int) < (mid : Int)) = false := dfalse (by omega)
          have q4' : decide (s < mid) = false := dfalse (by omega)
          have hD01 := hno (by omega)
          have hL := hnl (by omega)
          have hR := hnr (by omega)
          replace rl := Lib.hid rl
          go_wp2_with fail
          have o1 := ho
          rw [hD01] at o1
          have m1 := hm1.out
          have o2 := o1
          rw [hD12] at o2
          have m2 := m1
          have p1 := List.Perm.refl PL
          have s1 := hL
          have o3 := o2
          rw [hD23] at o3
          have m3 := m2
          have p2 := List.Perm.refl PR
          have s2 := hR
          go_end0
          exact ⟨rfl, hfin _ _ _ p1 s1 p2 s2 o3 m3⟩
        have q1 : decide ((s : Int) < (m : Int)) = false := dfalse (by omega)
        have q1' : decide (s < m) = false := dfalse (by omega)
        have q3 : decide ((a : Int) < (s : Int)) = true := dtrue (by omega)
        have q3' : decide (a < s) = true := dtrue (by omega)
        have q5 : decide ((mid : Int) < (e : Int)) = false := dfalse (by omega)
        have q5' : decide (mid < e) = false := dfalse (by omega)
        have q4 : decide ((s : Int) < (mid : Int)) = true := dtrue (by omega)
        have q4' : decide (s < mid) = true := dtrue (by omega)
        have hD01 := hno (by omega)
        have hR := hnr (by omega)
        replace rl := Lib.hid rl
        go_wp2_with fail
        have o1 := ho
        rw [hD01] at o1
        have m1 := hm1.out
        refine (kL _ o1 (by have := rl.out; omega) (by have := rl.out; omega)).mono ?_
        rintro e2 w2 ⟨rfl, S1, p1, s1, o2, m2⟩
        replace m2 := m1.then_ m2 (fun _ _ h => h)
        go_wp2_with fail
        have o3 := o2
        rw [hD23] at o3
        have m3 := m2
        have p2 := List.Perm.refl PR
        have s2 := hR
        go_end0
        exact ⟨rfl, hfin _ _ _ p1 s1 p2 s2 o3 m3⟩
      by_cases c2 : m < e
      case neg =>
        by_cases c3 : a < s
        case neg =>
          have q1 : decide ((s : Int) < (m : Int)) = true := dtrue (by omega)
          have q1' : decide (s < m) = true := dtrue (by omega)
          have q2 : decide ((m : Int) < (e : Int)) = false := dfalse (by omega)
          have q2' : decide (m < e) = false := dfalse (by omega)
          have q4 : decide ((s : Int) < (mid : Int)) = false := dfalse (by omega)
          have q4' : decide (s < mid) = false := dfalse (by omega)
          have q5 : decide ((mid : Int) < (e : Int)) = true := dtrue (by omega)
          have q5' : decide (mid < e) = true := dtrue (by omega)
          have q6 : decide ((e : Int) < (b : Int)) = true := dtrue (by omega)
          have q6' : decide (e < b) = true := dtrue (by omega)
          have q3 : decide ((a : Int) < (s : Int)) = false := dfalse (by omega)
          have q3' : decide (a < s) = false := dfalse (by omega)
          have hD01 := hno (by omega)
          have hL := hnl (by omega)
          replace rl := Lib.hid rl
          go_wp2_with fail
          have o1 := ho
          rw [hD01] at o1
          have m1 := hm1.out
          have o2 := o1
          rw [hD12] at o2
          have m2 := m1
          have p1 := List.Perm.refl PL
          have s1 := hL
          refine (kK _ _ p1.length_eq o2 (by have := rl.out; omega) (by have := rl.out; omega)).mono ?_
          rintro e3 w3 ⟨rfl, S2, p2, s2, o3, m3⟩
          replace m3 := m2.then_ m3 (fun _ _ h => h)
          go_wp2_with fail
          go_end0
          exact ⟨rfl, hfin _ _ _ p1 s1 p2 s2 o3 m3⟩
        have q1 : decide ((s : Int) < (m : Int)) = true := dtrue (by omega)
        have q1' : decide (s < m) = true := dtrue (by omega)
        have q2 : decide ((m : Int) < (e : Int)) = false := dfalse (by omega)
        have q2' : decide (m < e) = false := dfalse (by omega)
        have q4 : decide ((s : Int) < (mid : Int)) = false := dfalse (by omega)
        have q4' : decide (s < mid) = false := dfalse (by omega)
        have q5 : decide ((mid : Int) < (e : Int)) = true := dtrue (by omega)
        have q5' : decide (mid < e) = true := dtrue (by omega)
        have q6 : decide ((e : Int) < (b : Int)) = true := dtrue (by omega)
        have q6' : decide (e < b) = true := dtrue (by omega)
        have q3 : decide ((a : Int) < (s : Int)) = true := dtrue (by omega)
        have q3' : decide (a < s) = true := dtrue (by omega)
        have hD01 := hno (by omega)
        have hL := hnl (by omega)
        replace rl := Lib.hid rl
        go_wp2_with fail
        have o1 := ho
        rw [hD01] at o1
        have m1 := hm1.out
        have o2 := o1
        rw [hD12] at o2
        have m2 := m1
        have p1 := List.Perm.refl PL
        have s1 := hL
        refine (kK _ _ p1.length_eq o2 (by have := rl.out; omega) (by have := rl.out; omega)).mono ?_
        rintro e3 w3 ⟨rfl, S2, p2, s2, o3, m3⟩
        replace m3 := m2.then_ m3 (fun _ _ h => h)
        go_wp2_with fail
        go_end0
        exact ⟨rfl, hfin _ _ _ p1 s1 p2 s2 o3 m3⟩
      by_cases c3 : a < s
      case neg =>
        by_cases c6 : e < b
        case neg =>
          have q1 : decide ((s : Int) < (m : Int)) = true := dtrue (by omega)
          have q1' : decide (s < m) = true := dtrue (by omega)
          have q2 : decide ((m : Int) < (e : Int)) = true := dtrue (by omega)
          have q2' : decide (m < e) = true := dtrue (by omega)
          have q4 : decide ((s : Int) < (mid : Int)) = true := dtrue (by omega)
          have q4' : decide (s < mid) = true := dtrue (by omega)
          have q5 : decide ((mid : Int) < (e : Int)) = true := dtrue (by omega)
          have q5' : decide (mid < e) = true := dtrue (by omega)
          have q3 : decide ((a : Int) < (s : Int)) = false := dfalse (by omega)
          have q3' : decide (a < s) = false := dfalse (by omega)
          have q6 : decide ((e : Int) < (b : Int)) = false := dfalse (by omega)
          have q6' : decide (e < b) = false := dfalse (by omega)
          have hL := hnl (by omega)
          have hR := hnr (by omega)
          replace rl := Lib.hid rl
          go_wp2_with fail
          refine (kR _ ho (by have := rl.out; omega) (by have := rl.out; omega)).mono ?_
          rintro e1 w1 ⟨rfl, o1, m1⟩
          replace m1 := hm1.out.then_ m1 (fun _ _ h => h)
          go_wp2_with fail
          have o2 := o1
          rw [hD12] at o2
          have m2 := m1
          have p1 := List.Perm.refl PL
          have s1 := hL
          have o3 := o2
          rw [hD23] at o3
          have m3 := m2
          have p2 := List.Perm.refl PR
          have s2 := hR
          go_end0
          exact ⟨rfl, hfin _ _ _ p1 s1 p2 s2 o3 m3⟩
        have q1 : decide ((s : Int) < (m : Int)) = true := dtrue (by omega)
        have q1' : decide (s < m) = true := dtrue (by omega)
        have q2 : decide ((m : Int) < (e : Int)) = true := dtrue (by omega)
        have q2' : decide (m < e) = true := dtrue (by omega)
        have q4 : decide ((s : Int) < (mid : Int)) = true := dtrue (by omega)
        have q4' : decide (s < mid) = true := dtrue (by omega)
        have q5 : decide ((mid : Int) < (e : Int)) = true := dtrue (by omega)
        have q5' : decide (mid < e) = true := dtrue (by omega)
        have q3 : decide ((a : Int) < (s : Int)) = false := dfalse (by omega)
        have q3' : decide (a < s) = false := dfalse (by omega)
        have q6 : decide ((e : Int) < (b : Int)) = true := dtrue (by omega)
        have q6' : decide (e < b) = true := dtrue (by omega)
        have hL := hnl (by omega)
        replace rl := Lib.hid rl
        go_wp2_with fail
        refine (kR _ ho (by have := rl.out; omega) (by have := rl.out; omega)).mono ?_
        rintro e1 w1 ⟨rfl, o1, m1⟩
        replace m1 := hm1.out.then_ m1 (fun _ _ h => h)
        go_wp2_with fail
        have o2 := o1
        rw [hD12] at o2
        have m2 := m1
        have p1 := List.Perm.refl PL
        have s1 := hL
        refine (kK _ _ p1.length_eq o2 (by have := rl.out; omega) (by have := rl.out; omega)).mono ?_
        rintro e3 w3 ⟨rfl, S2, p2, s2, o3, m3⟩
        replace m3 := m2.then_ m3 (fun _ _ h => h)
        go_wp2_with fail
        go_end0
        exact ⟨rfl, hfin _ _ _ p1 s1 p2 s2 o3 m3⟩
      by_cases c6 : e < b
      case neg =>
        have q1 : decide ((s : Int) < (m : Int)) = true := dtrue (by omega)
        have q1' : decide (s < m) = true := dtrue (by omega)
        have q2 : decide ((m : Int) < (e : Int)) = true := dtrue (by omega)
        have q2' : decide (m < e) = true := dtrue (by omega)
        have q4 : decide ((s : Int) < (mid : Int)) = true := dtrue (by omega)
        have q4' : decide (s < mid) = true := dtrue (by omega)
        have q5 : decide ((mid : Int) < (e : Int)) = true := dtrue (by omega)
        have q5' : decide (mid < e) = true := dtrue (by omega)
        have q3 : decide ((a : Int) < (s : Int)) = true := dtrue (by omega)
        have q3' : decide (a < s) = true := dtrue (by omega)
        have q6 : decide ((e : Int) < (b : Int)) = false := dfalse (by omega)
        have q6' : decide (e < b) = false := dfalse (by omega)
        have hR := hnr (by omega)
        replace rl := Lib.hid rl
        go_wp2_with fail
        refine (kR _ ho (by have := rl.out; omega) (by have := rl.out; omega)).mono ?_
        rintro e1 w1 ⟨rfl, o1, m1⟩
        replace m1 := hm1.out.then_ m1 (fun _ _ h => h)
        go_wp2_with fail
        refine (kL _ o1 (by have := rl.out; omega) (by have := rl.out; omega)).mono ?_
        rintro e2 w2 ⟨rfl, S1, p1, s1, o2, m2⟩
        replace m2 := m1.then_ m2 (fun _ _ h => h)
        go_wp2_with fail
        have o3 := o2
        rw [hD23] at o3
        have m3 := m2
        have p2 := List.Perm.refl PR
        have s2 := hR
        go_end0
        exact ⟨rfl, hfin _ _ _ p1 s1 p2 s2 o3 m3⟩
      have q1 : decide ((s : Int) < (m : Int)) = true := dtrue (by omega)
      have q1' : decide (s < m) = true := dtrue (by omega)
      have q2 : decide ((m : Int) < (e : Int)) = true := dtrue (by omega)
      have q2' : decide (m < e) = true := dtrue (by omega)
      have q4 : decide ((s : Int) < (mid : Int)) = true := dtrue (by omega)
      have q4' : decide (s < mid) = true := dtrue (by omega)
      have q5 : decide ((mid : Int) < (e : Int)) = true := dtrue (by omega)
      have q5' : decide (mid < e) = true := dtrue (by omega)
      have q3 : decide ((a : Int) < (s : Int)) = true := dtrue (by omega)
      have q3' : decide (a < s) = true := dtrue (by omega)
      have q6 : decide ((e : Int) < (b : Int)) = true := dtrue (by omega)
      have q6' : decide (e < b) = true := dtrue (by omega)
      replace rl := Lib.hid rl
      go_wp2_with fail
      refine (kR _ ho (by have := rl.out; omega) (by have := rl.out; omega)).mono ?_
      rintro e1 w1 ⟨rfl, o1, m1⟩
      replace m1 := hm1.out.then_ m1 (fun _ _ h => h)
      go_wp2_with fail
      refine (kL _ o1 (by have := rl.out; omega) (by have := rl.out; omega)).mono ?_
      rintro e2 w2 ⟨rfl, S1, p1, s1, o2, m2⟩
      replace m2 := m1.then_ m2 (fun _ _ h => h)
      go_wp2_with fail
      refine (kK _ _ p1.length_eq o2 (by have := rl.out; omega) (by have := rl.out; omega)).mono ?_
      rintro e3 w3 ⟨rfl, S2, p2, s2, o3, m3⟩
      replace m3 := m2.then_ m3 (fun _ _ h => h)
      go_wp2_with fail
      go_end0
      exact ⟨rfl, hfin _ _ _ p1 s1 p2 s2 o3 m3⟩
end Go.Proofs.Ytmjkgibeljbloaa
