/- mem: the laws OfNothing and Newest. -/
import Derived.Test.YtlfooppmdgddkaaMemJ
namespace Go.Proofs.Ytlfooppmdgddkaa
open Go.RowKit
set_option maxRecDepth 100000

set_option maxHeartbeats 8000000 in
theorem memOfNothing_walk {w : World} {c : Ce} (hf : CFits c) :
    Calls Try.prog 12 #[.agg (car c)] w fun e w' => e = .returned (.bool true) ∧ Ext w w' := by
  have x0 : Ext w (w.alloc (.cells (car c) 23)) := (Mod.refl _ w).alloc _
  have B0 : Blk (w.alloc (.cells (car c) 23)) w.heap.size 23 (car c) := Blk.new w _ _
  obtain ⟨w0, hw0⟩ : ∃ w0, w0 = w.alloc (.cells (car c) 23) := ⟨_, rfl⟩
  rw [← hw0] at x0 B0
  have d0 : w0.cell? ⟨w.heap.size, 0, none⟩ = some (sv c.key) := B0.cell 0
  have d1 : w0.cell? ⟨w.heap.size, 1, none⟩ = some (sv c.val) := B0.cell 1
  have d3 : w0.cell? ⟨w.heap.size, 3, none⟩ = some (.int .i64 c.seq) := B0.cell 3
  replace hw0 := Lib.hid hw0
  obtain ⟨hf1, hf2⟩ := hf
  have hz1 := sv_size c.key
  have hz2 := sv_size c.val
  have hget := fun wx => get0_any (w := wx) c.key c.seq
  have hput := fun wx => put0_any (w := wx) c
  have hscan := fun wx => scan0_any (w := wx) [] []
  have hall := fun wx => all0_any (w := wx)
  have hsize := fun wx => size0_any (w := wx)
  have hlen := fun wx => len0_any (w := wx)
  have hkn := fun wx => known9_any (w := wx)
  have hgu := fun wx a b => guardC wx .eql a b (car cz) (car cz)
  have heq : ∀ wx, (binOp .eql 23 (.agg (car cz)) (.agg (car cz))).run Try.prog wx = .ok (.bool true) wx := fun wx => by rw [eqC, dtrue rfl]
  go_enter Try.func12, Try.ntmps12
  go_upto_region 1 with fail
  rw [← hw0.out]
  by_cases hbig : 2000 < c.key.length + c.val.length
  · have hb : decide ((2000 : Int) < (c.key.length : Int) + (c.val.length : Int)) = true := dtrue (by omega)
    go_wp2_with fail
    go_ret
    exact ⟨rfl, x0⟩
  have hb : decide ((2000 : Int) < (c.key.length : Int) + (c.val.length : Int)) = false := dfalse (by omega)
  go_wp2_with fail
  refine (hget _).mono ?_
  rintro e w1 ⟨rfl, x1⟩
  have B1 := (B0.mod x1 (fun h => h)).alloc (.cells (car cz) 23)
  have C1 : Blk (w1.alloc (.cells (car cz) 23)) w1.heap.size 23 (car cz) := Blk.new w1 _ _
  have x2 : Ext w (w1.alloc (.cells (car cz) 23)) := (ext_trans x0 x1).alloc _
  obtain ⟨w2, hw2⟩ : ∃ w2, w2 = w1.alloc (.cells (car cz) 23) := ⟨_, rfl⟩
  rw [← hw2] at B1 C1 x2
  replace hw2 := Lib.hid hw2
  clear d0 d1 d3 B0 hb hbig
  have d0 : w2.cell? ⟨w.heap.size, 0, none⟩ = some (sv c.key) := B1.cell 0
  have d1 : w2.cell? ⟨w.heap.size, 1, none⟩ = some (sv c.val) := B1.cell 1
  have d2 : w2.cell? ⟨w.heap.size, 2, none⟩ = some (.bool c.del) := B1.cell 2
  have d3 : w2.cell? ⟨w.heap.size, 3, none⟩ = some (.int .i64 c.seq) := B1.cell 3
  go_upto_region 5 with fail
  rw [← hw2.out]
  go_wp2_with fail
  refine (hput _).mono ?_
  rintro e w3 ⟨rfl, x3⟩
  have C3 := C1.mod x3 (fun h => h)
  have e0 : w3.cell? ⟨w1.heap.size, 0, none⟩ = some (sv []) := C3.cell 0
  have e1 : w3.cell? ⟨w1.heap.size, 1, none⟩ = some (sv []) := C3.cell 1
  have e2 : w3.cell? ⟨w1.heap.size, 2, none⟩ = some (.bool false) := C3.cell 2
  have e3 : w3.cell? ⟨w1.heap.size, 3, none⟩ = some (.int .i64 0) := C3.cell 3
  replace x2 := ext_trans x2 x3
  clear d0 d1 d2 d3 B1 C1 C3 x0 x1 x3
  go_wp2_with fail
  refine (hscan _).mono ?_
  rintro e w4 ⟨rfl, x4⟩
  replace x2 := ext_trans x2 x4
  clear e0 e1 e2 e3 x4
  go_wp2_with fail
  refine (hall _).mono ?_
  rintro e w5 ⟨rfl, x5⟩
  replace x2 := ext_trans x2 x5
  clear x5
  go_wp2_with fail
  refine (hsize _).mono ?_
  rintro e w6 ⟨rfl, x6⟩
  replace x2 := ext_trans x2 x6
  clear x6
  go_wp2_with fail
  refine (hlen _).mono ?_
  rintro e w7 ⟨rfl, x7⟩
  replace x2 := ext_trans x2 x7
  clear x7
  go_wp2_with fail
  refine (hkn _).mono ?_
  rintro e w8 ⟨rfl, x8⟩
  go_wp2_with fail
  go_ret
  exact ⟨rfl, ext_trans x2 x8⟩

/-- What is told of a key by many numbers. -/
def Nw (L : List Ce) (best a : Int) : Prop := sortedC L ∧ (∀ z ∈ L, z.key = [97] ∧ 1 ≤ z.seq) ∧ (best = 0 ∨ ∃ z ∈ L, z.seq = best ∧ best ≤ a) ∧ 0 ≤ best ∧ ∀ z ∈ L, z.seq ≤ a → z.seq ≤ best
def cS (s : Int) : Ce := ⟨[97], [120], false, s⟩
theorem isC_cS {s : Int} (h1 : 1 ≤ s) (h2 : s ≤ 1099511627776) : isC (cS s) := ⟨Nat.le_refl 1, show 1 ≤ 4096 by omega, show 1 ≤ 16384 by omega, (fun h => by cases h), h1, h2⟩
theorem Nw.put {L : List Ce} {best a s : Int} (h : Nw L best a) (h1 : 1 ≤ s) (h2 : s ≤ 1099511627776) :
    (¬ s ≤ a → Nw (putL L (cS s)).2 best a) ∧ (s ≤ a → Nw (putL L (cS s)).2 (if best ≤ s then s else best) a) ∧ (putL L (cS s)).2.length ≤ L.length + 1 := by
  obtain ⟨q1, q2, q3, q4, q5⟩ := h
  unfold putL
  by_cases hh : hasC L (cS s)
  · rw [if_neg (fun h => h.2 hh)]
    obtain ⟨d, hd, _, hds⟩ := hh
    have hds : d.seq = s := hds
    refine ⟨fun hn => ⟨q1, q2, q3, q4, q5⟩, fun hs => ⟨q1, q2, ?_, ?_, ?_⟩, Nat.le_succ _⟩
    · have := q5 d hd (by omega)
      by_cases hb : best ≤ s
      · rw [if_pos hb]; exact .inr ⟨d, hd, hds, hs⟩
      · rw [if_neg hb]; exact q3
    · split <;> omega
    · intro z hz hza
      have := q5 z hz hza
      split <;> omega
  · rw [if_pos ⟨isC_cS h1 h2, hh⟩]
    have r1 := ins_sorted q1 hh
    have r2 : ∀ z ∈ insC L (cS s), z.key = [97] ∧ 1 ≤ z.seq := fun z hz => by
      rcases mem_ins.1 hz with rfl | hz
      · exact ⟨rfl, h1⟩
      · exact q2 z hz
    refine ⟨fun hn => ⟨r1, r2, ?_, q4, ?_⟩, fun hs => ⟨r1, r2, ?_, ?_, ?_⟩, by rw [ins_length]; exact Nat.le_refl _⟩
    · rcases q3 with q3 | ⟨z, hz, e⟩
      · exact .inl q3
      · exact .inr ⟨z, mem_ins.2 (.inr hz), e⟩
    · intro z hz hza
      rcases mem_ins.1 hz with rfl | hz
      · exact absurd hza hn
      · exact q5 z hz hza
    · by_cases hb : best ≤ s
      · rw [if_pos hb]; exact .inr ⟨cS s, mem_ins.2 (.inl rfl), rfl, hs⟩
      · rw [if_neg hb]
        rcases q3 with q3 | ⟨z, hz, e⟩
        · exact .inl q3
        · exact .inr ⟨z, mem_ins.2 (.inr hz), e⟩
    · split <;> omega
    · intro z hz hza
      rcases mem_ins.1 hz with rfl | hz
      · show s ≤ _
        split <;> omega
      · have := q5 z hz hza
        split <;> omega
theorem Nw.told {L : List Ce} {best a : Int} (h : Nw L best a) : (outS (firstC L [97] a)).2 = decide (0 < best) ∧ (outS (firstC L [97] a)).1.seq = best ∧ (outS (firstC L [98] a)).2 = false := by
  obtain ⟨q1, q2, q3, q4, q5⟩ := h
  have hb : firstC L [98] a = none := by
    unfold firstC
    rw [List.find?_eq_none]
    intro z hz
    rw [(q2 z hz).1]
    simp
  rw [hb]
  cases hf : firstC L [97] a with
  | none =>
    unfold firstC at hf
    rw [List.find?_eq_none] at hf
    have hb0 : best = 0 := by
      rcases q3 with q3 | ⟨z, hz, e1, e2⟩
      · exact q3
      · have := hf z hz
        rw [(q2 z hz).1] at this
        simp at this
        omega
    subst hb0
    exact ⟨rfl, rfl, rfl⟩
  | some y =>
    have hy := firstC_key hf
    unfold firstC at hf
    obtain ⟨p1, pre, post, p2, p3⟩ := List.find?_eq_some_iff_append.1 hf
    have hyL : y ∈ L := by rw [p2]; simp
    have hy1 := q5 y hyL hy.2
    have hy2 := (q2 y hyL).2
    have hyb : y.seq = best := by
      rcases q3 with q3 | ⟨z, hz, e1, e2⟩
      · omega
      · rw [p2] at hz q1
        rcases List.mem_append.1 hz with hz | hz
        · have := p3 z hz
          rw [(q2 z (by rw [p2]; exact List.mem_append.2 (.inl hz))).1] at this
          simp at this
          omega
        · rcases List.mem_cons.1 hz with rfl | hz
          · exact e1
          · have := (List.pairwise_cons.1 (List.pairwise_append.1 q1).2.1).1 z hz
            unfold lessC at this
            rw [if_pos ((q2 y hyL).1.trans (q2 z (by rw [p2]; simp [hz])).1.symm)] at this
            have := of_decide_eq_true this
            omega
    exact ⟨by show true = _; rw [decide_eq_true (by omega)], hyb, rfl⟩

set_option maxHeartbeats 8000000 in
theorem memNewest_walk {w : World} {S : Nat → Prop} {v : Value} {l : List Int} {a : Int} (h : Is w S v l) :
    Calls Try.prog 13 #[v, .int .i64 a] w fun e w' => e = .returned (.bool true) ∧ Ext w w' := by
  obtain ⟨A, c, hv, h1, h2, h3, h4⟩ := h.open_
  subst hv
  have hkn := fun wx => known9_any (w := wx)
  have hnw := new_any (w := w) (S := S) (v := .slice none 0 0) (D := []) (Sl.nil _ _) (by simp)
  go_enter Try.func13, Try.ntmps13
  by_cases h60 : 60 < l.length
  · have hb : decide ((60 : Int) < (l.length : Int)) = true := dtrue (by omega)
    go_wp2_with fail
    go_ret
    exact ⟨rfl, Mod.refl _ _⟩
  have hb : decide ((60 : Int) < (l.length : Int)) = false := dfalse (by omega)
  go_wp2_with fail
  refine hnw.mono ?_
  rintro e w1 ⟨g, rfl, M1, x1⟩
  clear hnw hb
  have hB1 := x1.size
  go_wp2_with fail
  go_loopw [6, 7] (fun b i wr => ∃ (k : Nat) (best : Int) (L : List Ce), i = .int .i64 (k : Nat) ∧ b = .int .i64 best ∧ k ≤ l.length ∧ Hid (Nw L best a ∧ L.length ≤ k) ∧ Mt wr (fun k => w.heap.size ≤ k) g [] L ∧ Ext w wr) (fun _ i _ => l.length - (intOf i).toNat)
  case atStart => exact ⟨0, 0, [], rfl, rfl, Nat.zero_le _, Lib.hid ⟨⟨List.Pairwise.nil, (fun z hz => by cases hz), .inl rfl, by omega, fun z hz => by cases hz⟩, Nat.le_refl _⟩, M1, x1⟩
  case round =>
    clear M1 x1
    obtain ⟨k, best, L, rfl, rfl, hk, hI, M1, x1⟩ := hrel
    by_cases hlt : k < l.length
    case neg =>
      have hbl : decide ((k : Int) < (l.length : Int)) = false := dfalse (by omega)
      obtain ⟨t1, t2, t3⟩ := hI.out.1.told
      have hg1 := fun (wx : World) (hx : Ext wr wx) => getM_any (M1.ext hx) [97] a
      have hg2 := fun (wx : World) (hx : Ext wr wx) => getM_any (M1.ext hx) [98] a
      obtain ⟨⟨y, ok⟩, hq⟩ : ∃ q, q = outS (firstC L [97] a) := ⟨_, rfl⟩
      obtain ⟨⟨z, no⟩, hq2⟩ : ∃ q, q = outS (firstC L [98] a) := ⟨_, rfl⟩
      rw [← hq] at hg1 t1 t2
      rw [← hq2] at hg2 t3
      simp only at t1 t2 t3
      obtain ⟨y1, y2, y3, y4⟩ := y
      simp only at t2
      subst t2
      subst t3
      have hse : (y4 == y4) = true := by simp
      have hok : (ok == decide (0 < y4)) = true := by rw [t1]; simp
      clear hq hq2 t1 hI M1
      go_wp2_with fail
      refine (hg1 _ (Mod.refl _ _)).mono ?_
      rintro e w4 ⟨rfl, x4⟩
      have B4 : Blk (w4.alloc (.cells (car ⟨y1, y2, y3, y4⟩) 23)) w4.heap.size 23 (car ⟨y1, y2, y3, y4⟩) := Blk.new w4 _ _
      have x5 : Ext wr (w4.alloc (.cells (car ⟨y1, y2, y3, y4⟩) 23)) := x4.alloc _
      go_wp2_with fail
      refine (hg2 _ x5).mono ?_
      rintro e w6 ⟨rfl, x6⟩
      have B6 := (B4.mod x6 (fun h => h)).alloc (.cells (car z) 23)
      have x7 : Ext wr (w6.alloc (.cells (car z) 23)) := (ext_trans x5 x6).alloc _
      obtain ⟨w7, hw7⟩ : ∃ w7, w7 = w6.alloc (.cells (car z) 23) := ⟨_, rfl⟩
      rw [← hw7] at B6 x7
      replace hw7 := Lib.hid hw7
      have e1 : w7.cell? ⟨w4.heap.size, 3, none⟩ = some (.int .i64 y4) := B6.cell 3
      clear hg1 hg2 B4 B6 x5 x6
      go_upto_region 17 with fail
      rw [← hw7.out]
      go_wp2_with fail
      refine (hkn _).mono ?_
      rintro e w8 ⟨rfl, x8⟩
      go_wp2_with fail
      go_ret
      exact ⟨rfl, ext_trans x1 (ext_trans x7 x8)⟩
    have hbl : decide ((k : Int) < (l.length : Int)) = true := dtrue (by omega)
    obtain ⟨ad, hA, -, c0⟩ := h4.at_ hlt
    subst hA
    have hc : ∀ {wx : World}, Ext w wx → wx.cell? (ad.add k) = some (.int .i64 l[k]) := fun hx => (hx.cell (lt_of_cell c0) (fun h => h)).trans c0
    have hi0 : (0 : Int) ≤ (k : Int) := by omega
    have hi1 : (k : Int) < (l.length : Int) := by omega
    generalize l[k] = s at *
    clear c0
    have c1 := hc x1
    by_cases hs1 : s < 1
    · have hb1 : decide (s < 1) = true := dtrue hs1
      go_wp2_with fail
      refine (hkn _).mono ?_
      rintro e w8 ⟨rfl, x8⟩
      go_wp2_with fail
      go_ret
      exact ⟨rfl, ext_trans x1 x8⟩
    have hb1 : decide (s < 1) = false := dfalse hs1
    by_cases hs2 : 1099511627776 < s
    · have hb2 : decide (1099511627776 < s) = true := dtrue hs2
      go_wp2_with fail
      refine (hkn _).mono ?_
      rintro e w8 ⟨rfl, x8⟩
      go_wp2_with fail
      go_ret
      exact ⟨rfl, ext_trans x1 x8⟩
    have hb2 : decide (1099511627776 < s) = false := dfalse hs2
    obtain ⟨n1, n2, n3⟩ := hI.out.1.put (s := s) (by omega) (by omega)
    have hLk := hI.out.2
    have hpt := putB_any M1 (by have := x1.size; omega) (cS s) (by omega) (by simp)
    obtain ⟨⟨bq, L'⟩, hL'⟩ : ∃ q, q = putL L (cS s) := ⟨_, rfl⟩
    rw [← hL'] at n1 n2 n3 hpt
    replace n1 := Lib.hid n1
    replace n2 := Lib.hid n2
    replace hLk : Hid (L'.length ≤ k + 1) := Lib.hid (by simp only at n3; omega)
    clear hL' hI n3 hs1 hs2
    go_wp2_with fail
    refine hpt.mono ?_
    rintro e w2 ⟨rfl, M2, y2⟩
    have x2 : Ext w w2 := x1.trans y2 (fun _ _ h => h) (fun k hk h => by omega)
    have c2 := hc x2
    clear hpt y2 M1 c1
    by_cases hsa : s ≤ a
    case neg =>
      have hb3 : decide (s ≤ a) = false := dfalse hsa
      go_wp2_with fail
      exact ⟨⟨k + 1, best, L', by go_num, rfl, by omega, Lib.hid ⟨n1.out hsa, hLk.out⟩, M2, x2⟩, by simp [intOf] <;> omega⟩
    have hb3 : decide (s ≤ a) = true := dtrue hsa
    obtain ⟨bn, hbn⟩ : ∃ bn, bn = if best ≤ s then s else best := ⟨_, rfl⟩
    have hmx : ∀ (ts : Array TypeId) (t : TypeId) (wx : World), (Builtin.max_ ts t #[.int .i64 best, .int .i64 s]).run Try.prog wx = .ok (.int .i64 bn) wx := by
      intro ts t wx
      rw [run_max_int2]
      congr 2
      rw [hbn]
      by_cases h : best ≤ s <;> simp [h] <;> omega
    replace hbn := Lib.hid hbn
    go_wp2_with fail
    exact ⟨⟨k + 1, bn, L', by go_num, rfl, by omega, Lib.hid ⟨by rw [hbn.out]; exact n2.out hsa, hLk.out⟩, M2, x2⟩, by simp [intOf] <;> omega⟩
end Go.Proofs.Ytlfooppmdgddkaa
