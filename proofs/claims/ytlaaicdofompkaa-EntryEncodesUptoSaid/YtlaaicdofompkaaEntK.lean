/- entry: the document's Same. -/
import Derived.Test.YtlaaicdofompkaaEntJ
import Derived.Deep.DeepCutAuto
namespace Go.Proofs.Ytlaaicdofompkaa
open Go.RowKit
set_option maxRecDepth 100000

instance instDecAtt : DecidableEq Att := fun x y => if h : x.typ = y.typ ∧ x.vals = y.vals then .isTrue (by cases x; cases y; simp only at h; rw [h.1, h.2]) else .isFalse (fun e => h (by subst e; exact ⟨rfl, rfl⟩))
def sameE (a b : Ent) : Bool := decide (a.dn = b.dn ∧ a.ats = b.ats)
theorem sameE_refl (a : Ent) : sameE a a = true := decide_eq_true ⟨rfl, rfl⟩
theorem att_ext {x y : Att} (h1 : x.typ = y.typ) (h2 : x.vals = y.vals) : x = y := by cases x; cases y; simp only at h1 h2; rw [h1, h2]
theorem take_step {α : Type} {L M : List α} {k : Nat} (h1 : k < L.length) (h2 : k < M.length) (h : L.take k = M.take k) : L.take (k + 1) = M.take (k + 1) ↔ L[k] = M[k] := by
  rw [List.take_succ_eq_append_getElem h1, List.take_succ_eq_append_getElem h2, h]
  exact ⟨fun h => List.singleton_inj.1 (List.append_cancel_left h), fun h => by rw [h]⟩
theorem take_ne {α : Type} {L M : List α} {k : Nat} (h1 : k < L.length) (h2 : k < M.length) (h : L[k] ≠ M[k]) : L ≠ M := fun e => h (by subst e; rfl)
theorem take_all_eq {α : Type} {L M : List α} {k : Nat} (h1 : k = L.length) (h2 : L.length = M.length) (h : L.take k = M.take k) : L = M := by
  rwa [List.take_of_length_le (by omega), List.take_of_length_le (by omega)] at h

theorem Blk.two (w : World) (A B : Array Value) (s t : TypeId) : Blk ((w.alloc (.cells A s)).alloc (.cells B t)).drew w.heap.size s A ∧ Blk ((w.alloc (.cells A s)).alloc (.cells B t)).drew (w.heap.size + 1) t B ∧ Ext w ((w.alloc (.cells A s)).alloc (.cells B t)).drew := by
  refine ⟨(Blk.new w _ _).mod (F := fun _ => False) (((Mod.refl _ _).alloc _).drew) (fun h => h), ?_, (((Mod.refl _ w).alloc _).alloc _).drew⟩
  have h := Blk.new (w.alloc (.cells A s)) t B
  have hs : (w.alloc (.cells A s)).heap.size = w.heap.size + 1 := by simp
  rw [hs] at h
  exact h.mod (F := fun _ => False) ((Mod.refl _ _).drew) (fun h => h)

set_option maxHeartbeats 8000000 in
theorem rsame20_any {w : World} {S S' : Nat → Prop} {vd va vd' va' : Value} {a b : Ent} (hd : As w S vd a.dn) (ha : Ats w va a.ats) (hd' : As w S' vd' b.dn) (ha' : Ats w va' b.ats) (hwa : wE a ≤ 1000000) (hwb : wE b ≤ 1000000) :
    Calls Try.prog 15 #[.agg #[vd, va], .agg #[vd', va']] w fun e w' => e = .returned (.bool (sameE a b)) ∧ Ext w w' := by
  have hgA := wA_ge a.ats
  have hgB := wA_ge b.ats
  have hgD := wD_ge a.dn
  have hgE := wD_ge b.dn
  unfold wE at hwa hwb
  have hax := fun {wx : World} (x : Ext w wx) => (ha.ext x).open_
  have hbx := fun {wx : World} (x : Ext w wx) => (ha'.ext x).open_
  obtain ⟨A, c, rfl, -⟩ := ha.open_
  obtain ⟨B, d, rfl, -⟩ := ha'.open_
  obtain ⟨A0, c0, rfl, -, -, -, h4⟩ := hd.open_ avc_len
  obtain ⟨B0, d0, rfl, -, -, -, j4⟩ := hd'.open_ avc_len
  obtain ⟨R, hR⟩ : ∃ R, R = sameE a b := ⟨_, rfl⟩
  rw [← hR]
  have hRn : a.dn ≠ b.dn ∨ a.ats ≠ b.ats → R = false := fun h => by rw [hR]; exact decide_eq_false (fun g => by rcases h with h | h; exact h g.1; exact h g.2)
  have hRy : a.dn = b.dn → a.ats = b.ats → R = true := fun g h => by rw [hR]; exact decide_eq_true ⟨g, h⟩
  have hwl : a.dn.length ≤ 1000000 ∧ b.dn.length ≤ 1000000 ∧ a.ats.length ≤ 1000000 ∧ b.ats.length ≤ 1000000 := by omega
  have hvl : ∀ x ∈ a.ats, x.vals.length ≤ 1000000 := fun x hx => by have := wA_mem hx; have := wV_ge x.vals; omega
  have hvm : ∀ x ∈ b.ats, x.vals.length ≤ 1000000 := fun x hx => by have := wA_mem hx; have := wV_ge x.vals; omega
  obtain ⟨n0, hn0⟩ : ∃ n, n = a.dn.length := ⟨_, rfl⟩
  obtain ⟨m0, hm0⟩ : ∃ n, n = b.dn.length := ⟨_, rfl⟩
  obtain ⟨n1, hn1⟩ : ∃ n, n = a.ats.length := ⟨_, rfl⟩
  obtain ⟨m1, hm1⟩ : ∃ n, n = b.ats.length := ⟨_, rfl⟩
  rw [← hn0, ← hm0, ← hn1, ← hm1]
  obtain ⟨w2, hw2⟩ : ∃ x, x = (w.alloc (.cells #[.slice A0 n0 c0, .slice A n1 c] 25)).alloc (.cells #[.slice B0 m0 d0, .slice B m1 d] 25) := ⟨_, rfl⟩
  have x2 : Ext w w2 := by rw [hw2]; exact ((Mod.refl _ w).alloc _).alloc _
  have BA : Blk w2 w.heap.size 25 #[.slice A0 n0 c0, .slice A n1 c] := by rw [hw2]; exact (Blk.new w _ _).mod (F := fun _ => False) ((Mod.refl _ _).alloc _) (fun h => h)
  have BB : Blk w2 (w.heap.size + 1) 25 #[.slice B0 m0 d0, .slice B m1 d] := by
    rw [hw2]
    have h := Blk.new (w.alloc (.cells #[.slice A0 n0 c0, .slice A n1 c] 25)) (t := 25) (cs := #[.slice B0 m0 d0, .slice B m1 d])
    have hs : (w.alloc (.cells #[.slice A0 n0 c0, .slice A n1 c] 25)).heap.size = w.heap.size + 1 := by simp
    rw [hs] at h
    exact h
  obtain ⟨q, hq⟩ : ∃ q, q = w.heap.size + 1 := ⟨_, rfl⟩
  obtain ⟨p, hp⟩ : ∃ p, p = w.heap.size := ⟨_, rfl⟩
  rw [← hq] at BB
  rw [← hp] at BA
  replace hw2 := Lib.hid hw2
  replace hq := Lib.hid hq
  replace hp := Lib.hid hp
  have hN0 : n0 ≤ 1000000 := by omega
  have hN1 : n1 ≤ 1000000 := by omega
  replace hn0 := Lib.hid hn0
  replace hm0 := Lib.hid hm0
  replace hn1 := Lib.hid hn1
  replace hm1 := Lib.hid hm1
  clear hR hgA hgB hgD hgE ha ha' hd hd' hwa hwb
  go_enter Try.func15, Try.ntmps15
  go_upto_region 1 with fail
  rw [← hw2.out, ← hq.out, ← hp.out]
  clear hw2 hq hp
  have p0 : w2.cell? ⟨p, 0, none⟩ = some (.slice A0 n0 c0) := BA.cell 0
  have p1 : w2.cell? ⟨p, 1, none⟩ = some (.slice A n1 c) := BA.cell 1
  have q0 : w2.cell? ⟨q, 0, none⟩ = some (.slice B0 m0 d0) := BB.cell 0
  have q1 : w2.cell? ⟨q, 1, none⟩ = some (.slice B m1 d) := BB.cell 1
  by_cases e0 : n0 = m0
  case neg =>
    have hb0 : ((n0 : Int) != (m0 : Int)) = true := by rw [bne_iff_ne]; omega
    have hR2 := Lib.hid (hRn (.inl (fun h => by have h1 := congrArg List.length h; have := hn0.out; have := hm0.out; omega)))
    clear hRn hRy e0
    go_wp2_with fail
    go_ret
    exact ⟨by rw [hR2.out]; rfl, x2⟩
  by_cases e1 : n1 = m1
  case neg =>
    have hb0 : ((n0 : Int) != (m0 : Int)) = false := by rw [bne_eq_false_iff_eq]; omega
    have hb1 : ((n1 : Int) != (m1 : Int)) = true := by rw [bne_iff_ne]; omega
    have hR2 := Lib.hid (hRn (.inr (fun h => by have h1 := congrArg List.length h; have := hn1.out; have := hm1.out; omega)))
    clear hRn hRy e0 e1
    go_wp2_with fail
    go_ret
    exact ⟨by rw [hR2.out]; rfl, x2⟩
  subst e0
  subst e1
  have hb0 : ((n0 : Int) != (n0 : Int)) = false := by rw [bne_eq_false_iff_eq]
  have hb1 : ((n1 : Int) != (n1 : Int)) = false := by rw [bne_eq_false_iff_eq]
  replace hRn := Lib.hid hRn
  replace hRy := Lib.hid hRy
  go_wp2_with fail
  clear p0 p1 q0 q1 hb0 hb1
  go_loopw [5] (fun i wr => ∃ k : Nat, k ≤ n0 ∧ i = .int .i64 k ∧ Hid (a.dn.take k = b.dn.take k) ∧ Ext w2 wr) (fun i _ => n0 - (intOf i).toNat)
  case atStart => exact ⟨0, Nat.zero_le _, rfl, Lib.hid (by simp), Mod.refl _ _⟩
  case round =>
    obtain ⟨k, hk, rfl, hs, hx⟩ := hrel
    have p0 : wr.cell? ⟨p, 0, none⟩ = some (.slice A0 n0 c0) := (BA.mod hx (fun h => h)).cell 0
    have q0 : wr.cell? ⟨q, 0, none⟩ = some (.slice B0 n0 d0) := (BB.mod hx (fun h => h)).cell 0
    by_cases hlt : k < n0
    case pos =>
      have hbl : decide ((k : Int) < (n0 : Int)) = true := dtrue (by omega)
      have hbn : decide (k < n0) = true := dtrue (by omega)
      have l1 : k < a.dn.length := by have := hn0.out; omega
      have l2 : k < b.dn.length := by have := hm0.out; omega
      obtain ⟨ad, hA, -, c0', c1'⟩ := As.at_ (h4.ext (ext_trans x2 hx)) l1
      obtain ⟨bd, hB, -, d0', d1'⟩ := As.at_ (j4.ext (ext_trans x2 hx)) l2
      subst hA
      subst hB
      have hsn := take_step l1 l2 hs.out
      have hno : a.dn[k] ≠ b.dn[k] → R = false := fun h => hRn.out (.inl (take_ne l1 l2 h))
      have hi0 : (0 : Int) ≤ (k : Int) := by omega
      have hi1 : (k : Int) < (n0 : Int) := by omega
      generalize a.dn[k] = x at *
      generalize b.dn[k] = y at *
      have hgu := fun wx a b => guardA wx .neq a b #[sv x.1, sv x.2] #[sv y.1, sv y.2]
      have hdw : ∀ m, Ext w2 (wr.drewN m) := fun m => hx.drewN m
      by_cases hxy : x = y
      · have hs2 := Lib.hid (hsn.2 hxy)
        have hne : ∀ wx, (binOp .neq 49 (.agg #[sv x.1, sv x.2]) (.agg #[sv y.1, sv y.2])).run Try.prog wx = .ok (.bool false) wx := fun wx => by rw [neqA, dtrue hxy]; rfl
        clear hsn hno hxy l1 l2
        go_wp2_with fail
        go_quiet (fail)
        go_wp2_with fail
        exact ⟨⟨k + 1, by omega, by go_num, hs2, hdw _⟩, by simp [intOf] <;> omega⟩
      · have hne : ∀ wx, (binOp .neq 49 (.agg #[sv x.1, sv x.2]) (.agg #[sv y.1, sv y.2])).run Try.prog wx = .ok (.bool true) wx := fun wx => by rw [neqA, dfalse hxy]; rfl
        have hR2 := Lib.hid (hno hxy)
        clear hsn hno hxy l1 l2
        go_wp2_with fail
        go_quiet (fail)
        go_wp2_with fail
        go_ret
        exact ⟨by rw [hR2.out]; rfl, ext_trans x2 (hdw _)⟩
    have hbl : decide ((k : Int) < (n0 : Int)) = false := dfalse (by omega)
    have hbn : decide (k < n0) = false := dfalse (by omega)
    have hdd := Lib.hid (take_all_eq (by have := hn0.out; omega) (by have := hn0.out; have := hm0.out; omega) hs.out)
    have z0 := hx
    clear hlt hs h4 j4
    go_wp2_with fail
    clear p0 q0
    go_loopw [6] (fun i wr => ∃ k : Nat, k ≤ n1 ∧ i = .int .i64 k ∧ Hid (a.ats.take k = b.ats.take k) ∧ Ext w2 wr) (fun i _ => n1 - (intOf i).toNat)
    case atStart => exact ⟨0, Nat.zero_le _, rfl, Lib.hid (by simp), z0⟩
    case round =>
      clear z0 hx
      obtain ⟨k, hk, rfl, hs, hx⟩ := hrel
      have p1 : wr.cell? ⟨p, 1, none⟩ = some (.slice A n1 c) := (BA.mod hx (fun h => h)).cell 1
      have q1 : wr.cell? ⟨q, 1, none⟩ = some (.slice B n1 d) := (BB.mod hx (fun h => h)).cell 1
      by_cases hlt : k < n1
      case neg =>
        have hbl : decide ((k : Int) < (n1 : Int)) = false := dfalse (by omega)
        have hbn : decide (k < n1) = false := dfalse (by omega)
        have hR2 := Lib.hid (hRy.out hdd.out (take_all_eq (by have := hn1.out; omega) (by have := hn1.out; have := hm1.out; omega) hs.out))
        go_wp2_with fail
        go_ret
        exact ⟨by rw [hR2.out]; rfl, ext_trans x2 hx⟩
      have hbl : decide ((k : Int) < (n1 : Int)) = true := dtrue (by omega)
      have hbn : decide (k < n1) = true := dtrue (by omega)
      have l1 : k < a.ats.length := by have := hn1.out; omega
      have l2 : k < b.ats.length := by have := hm1.out; omega
      obtain ⟨A', c', hv, hat⟩ := hax (ext_trans x2 hx)
      obtain ⟨ad, y, hA, a0, a1, hy⟩ := hat k l1
      injection hv with hv1 _ hv3
      subst hv1
      subst hv3
      subst hA
      obtain ⟨B', d', hv', hbt⟩ := hbx (ext_trans x2 hx)
      obtain ⟨bd, z, hB, b0, b1, hz⟩ := hbt k l2
      injection hv' with hv1 _ hv3
      subst hv1
      subst hv3
      subst hB
      have hsn := take_step l1 l2 hs.out
      have hno : a.ats[k] ≠ b.ats[k] → R = false := fun h => hRn.out (.inr (take_ne l1 l2 h))
      have v1 := hvl _ (List.getElem_mem l1)
      have v2 := hvm _ (List.getElem_mem l2)
      have hi0 : (0 : Int) ≤ (k : Int) := by omega
      have hi1 : (k : Int) < (n1 : Int) := by omega
      generalize a.ats[k] = x at *
      generalize b.ats[k] = u at *
      clear hat hbt l1 l2 hax hbx hs
      obtain ⟨Ay, cy, rfl, -, -, -, hy4⟩ := hy.open_
      obtain ⟨Az, cz, rfl, -, -, -, hz4⟩ := hz.open_
      obtain ⟨nx, hnx⟩ : ∃ n, n = x.vals.length := ⟨_, rfl⟩
      obtain ⟨nu, hnu⟩ : ∃ n, n = u.vals.length := ⟨_, rfl⟩
      rw [← hnx] at a1 v1
      rw [← hnu] at b1 v2
      replace hnx := Lib.hid hnx
      replace hnu := Lib.hid hnu
      go_upto_region 11 with fail
      go_cut [2, 3, 6, 7, 8] (fun s2 s3 s6 s7 s8 wx => s2 = .pointer (some ⟨p, 0, none⟩) ∧ s3 = .pointer (some ⟨q, 0, none⟩) ∧ s6 = .int .i64 (k : Nat) ∧ (∃ g7, s7 = .pointer (some ⟨g7, 0, none⟩) ∧ Blk wx g7 46 #[sv x.typ, .slice Ay nx cy]) ∧ (∃ g8, s8 = .pointer (some ⟨g8, 0, none⟩) ∧ Blk wx g8 46 #[sv u.typ, .slice Az nu cz]) ∧ Ext wr wx)
      case first =>
        have z0 := World.new_ne wr _ p1
        have z1 := World.new_ne wr _ q1
        have z2 := World.new_ne wr _ a0
        have z3 := World.new_ne wr _ a1
        have z4 := World.new_ne wr _ b0
        have z5 := World.new_ne wr _ b1
        go_region_held3 (fun wx => wx.cell? ⟨p, 1, none⟩ = some (.slice (some ad) n1 c) ∧ wx.cell? ⟨q, 1, none⟩ = some (.slice (some bd) n1 d) ∧ wx.cell? (ad.add (k * 2)) = some (sv x.typ) ∧ wx.cell? ⟨(ad.add (k * 2)).block, (ad.add (k * 2)).off + 1, none⟩ = some (.slice Ay nx cy) ∧ wx.cell? (bd.add (k * 2)) = some (sv u.typ) ∧ wx.cell? ⟨(bd.add (k * 2)).block, (bd.add (k * 2)).off + 1, none⟩ = some (.slice Az nu cz)) (first | go_keep) (fail)
        all_goals go_wp2_with fail
        all_goals go_meet
        all_goals first
          | exact ⟨rfl, rfl, rfl, ⟨_, rfl, (Blk.two wr _ _ _ _).1⟩, ⟨_, rfl, (Blk.two wr _ _ _ _).2.1⟩, (Blk.two wr _ _ _ _).2.2⟩
          | exact ⟨rfl, rfl, rfl, ⟨_, rfl, (Blk.two wr _ _ _ _).2.1⟩, ⟨_, rfl, (Blk.two wr _ _ _ _).1⟩, (Blk.two wr _ _ _ _).2.2⟩
      case rest =>
        obtain ⟨rfl, rfl, rfl, ⟨g7, rfl, B7⟩, ⟨g8, rfl, B8⟩, x3⟩ := hcut
        have c70 : wc.cell? ⟨g7, 0, none⟩ = some (sv x.typ) := B7.cell 0
        have c71 : wc.cell? ⟨g7, 1, none⟩ = some (.slice Ay nx cy) := B7.cell 1
        have c80 : wc.cell? ⟨g8, 0, none⟩ = some (sv u.typ) := B8.cell 0
        have c81 : wc.cell? ⟨g8, 1, none⟩ = some (.slice Az nu cz) := B8.cell 1
        have x23 := ext_trans hx x3
        have yR := ext_trans x2 x23
        have hys := hy.ext x3
        have hzs := hz.ext x3
        clear a0 a1 b0 b1 p1 q1 hy4 hz4 hy hz hx x3
        by_cases ht : x.typ = u.typ
        case neg =>
          have hR2 := Lib.hid (hno (fun e => ht (by rw [e])))
          have hb1 : (x.typ != u.typ) = true := bne_iff_ne.2 ht
          have hb2 : (x.typ == u.typ) = false := beq_eq_false_iff_ne.2 ht
          clear hno hsn ht
          go_wp2_with fail
          go_ret
          exact ⟨by rw [hR2.out]; rfl, yR⟩
        have hb1 : (x.typ != u.typ) = false := bne_eq_false_iff_eq.2 ht
        have hb2 : (x.typ == u.typ) = true := beq_iff_eq.2 ht
        by_cases hln : nx = nu
        case neg =>
          have hR2 := Lib.hid (hno (fun e => hln (by rw [hnx.out, hnu.out, e])))
          have hb3 : ((nx : Int) != (nu : Int)) = true := by rw [bne_iff_ne]; omega
          clear hno hsn ht hln
          go_wp2_with fail
          go_ret
          exact ⟨by rw [hR2.out]; rfl, yR⟩
        subst hln
        have hb3 : ((nx : Int) != (nx : Int)) = false := by rw [bne_eq_false_iff_eq]
        have hno2 : Hid (x.vals ≠ u.vals → R = false) := Lib.hid fun h => hno (fun e => h (by rw [e]))
        have hyes : Hid (x.vals = u.vals → a.ats.take (k + 1) = b.ats.take (k + 1)) := Lib.hid fun h => hsn.2 (att_ext ht h)
        clear hno hsn
        generalize htx : x.typ = tx at *
        replace ht := Lib.hid ht
        replace htx := Lib.hid htx
        go_wp2_with fail
        go_loopw [9] (fun i wx => ∃ j : Nat, j ≤ nx ∧ i = .int .i64 j ∧ Hid (x.vals.take j = u.vals.take j) ∧ Ext wc wx) (fun i _ => nx - (intOf i).toNat)
        case atStart => exact ⟨0, Nat.zero_le _, rfl, Lib.hid (by simp), Mod.refl _ _⟩
        case round =>
          clear c70 c71 c80 c81 hb1 hb2 hb3
          obtain ⟨j, hj, rfl, hs2, hx2⟩ := hrel
          have c71 : wr.cell? ⟨g7, 1, none⟩ = some (.slice Ay nx cy) := (B7.mod hx2 (fun h => h)).cell 1
          have c81 : wr.cell? ⟨g8, 1, none⟩ = some (.slice Az nx cz) := (B8.mod hx2 (fun h => h)).cell 1
          by_cases hlt2 : j < nx
          case neg =>
            have hbl2 : decide ((j : Int) < (nx : Int)) = false := dfalse (by omega)
            have hbn2 : decide (j < nx) = false := dfalse (by omega)
            have hnx2 := Lib.hid (hyes.out (take_all_eq (by have := hnx.out; omega) (by have := hnx.out; have := hnu.out; omega) hs2.out))
            go_wp2_with fail
            exact ⟨⟨k + 1, by omega, by go_num, hnx2, ext_trans x23 hx2⟩, by simp [intOf] <;> omega⟩
          have hbl2 : decide ((j : Int) < (nx : Int)) = true := dtrue (by omega)
          have hbn2 : decide (j < nx) = true := dtrue (by omega)
          have l1 : j < x.vals.length := by have := hnx.out; omega
          have l2 : j < u.vals.length := by have := hnu.out; omega
          obtain ⟨A2, c2, e1, _, _, _, h5⟩ := (Sl.ext hys hx2).open_
          injection e1 with e1 _ e3
          subst e1
          subst e3
          obtain ⟨ad2, e2, _, h6⟩ := h5.at_ l1
          obtain ⟨A3, c3, f1, _, _, _, h7⟩ := (Sl.ext hzs hx2).open_
          injection f1 with f1 _ f3
          subst f1
          subst f3
          obtain ⟨bd2, f2, _, h8⟩ := h7.at_ l2
          subst e2
          subst f2
          have hsn2 := take_step l1 l2 hs2.out
          have hno3 : x.vals[j] ≠ u.vals[j] → R = false := fun h => hno2.out (take_ne l1 l2 h)
          have hj0 : (0 : Int) ≤ (j : Int) := by omega
          have hj1 : (j : Int) < (nx : Int) := by omega
          generalize x.vals[j] = sx at *
          generalize u.vals[j] = su at *
          have hdw : ∀ m, Ext wc (wr.drewN m) := fun m => hx2.drewN m
          clear h5 h7 l1 l2 hys hzs
          by_cases hss : sx = su
          · have hs3 := Lib.hid (hsn2.2 hss)
            have hb1 : (sx != su) = false := bne_eq_false_iff_eq.2 hss
            have hb2 : (sx == su) = true := beq_iff_eq.2 hss
            clear hsn2 hno3 hss
            go_wp2_with fail
            go_quiet (fail)
            go_wp2_with fail
            exact ⟨⟨j + 1, by omega, by go_num, hs3, hdw _⟩, by simp [intOf] <;> omega⟩
          · have hR2 := Lib.hid (hno3 hss)
            have hb1 : (sx != su) = true := bne_iff_ne.2 hss
            have hb2 : (sx == su) = false := beq_eq_false_iff_ne.2 hss
            clear hsn2 hno3 hss
            go_wp2_with fail
            go_quiet (fail)
            go_wp2_with fail
            go_ret
            exact ⟨by rw [hR2.out]; rfl, ext_trans yR (hdw _)⟩
end Go.Proofs.Ytlaaicdofompkaa
