/- disk: the program's Copy. -/
import Derived.Test.YtnmfkfjeihjkeaaRdV
namespace Go.Proofs.Ytnmfkfjeihjkeaa
open Go.RowKit Go.Maps Go.WideMaps
set_option maxRecDepth 100000

/-- Those that have come are there. -/
def copL (left : Lit → Bool) (L : Fis) : Fis := L.filter fun f => !left (.string f.name)
theorem copL_rise {L : Fis} (h : Rise L) (left : Lit → Bool) : Rise (copL left L) := by
  have h2 : L.Pairwise fun a b => Op.bytesLess a.name b.name = true := List.pairwise_map.1 h
  exact List.pairwise_map.2 (h2.filter _)
theorem sumB_filter (p : Fi → Bool) : ∀ L : Fis, sumB (L.filter p) ≤ sumB L
  | [] => Nat.le_refl _
  | a :: L => by
    have ih := sumB_filter p L
    rw [List.filter_cons]
    split
    · rw [sumB_cons, sumB_cons]; omega
    · rw [sumB_cons]; omega
theorem copL_new {L : Fis} {left : Lit → Bool} {f : Fi} (hl : left (.string f.name) = true) : f.name ∉ nms (copL left L) := by
  intro h
  obtain ⟨g, hg, e⟩ := List.mem_map.1 h
  have := (List.mem_filter.1 hg).2
  rw [e, hl] at this
  cases this
theorem copL_step {L : Fis} {left : Lit → Bool} (hr : Rise L) {f : Fi} (hf : f ∈ L) (hl : left (.string f.name) = true) : copL (fun z => left z && !z.sameKey (.string f.name)) L = putF (copL left L) f := by
  refine eq_of_nms (copL_rise hr _) (rise_putF (copL_rise hr _)) fun x => ?_
  rw [mem_putF (copL_rise hr _)]
  unfold copL
  rw [List.mem_filter, List.mem_filter]
  simp only [strikeS]
  constructor
  · rintro ⟨h1, h2⟩
    by_cases e : x.name = f.name
    · left
      have e1 := getF_of_mem hr h1
      rw [e, getF_of_mem hr hf] at e1
      exact (Option.some.inj e1).symm
    · right
      exact ⟨⟨h1, by simpa [e] using h2⟩, e⟩
  · rintro (rfl | ⟨⟨h1, h2⟩, h3⟩)
    · exact ⟨hf, by simp⟩
    · exact ⟨h1, by simp at h2 ⊢; exact .inl h2⟩
theorem copL_none (left : Lit → Bool) (L : Fis) (h : ∀ kl, left kl = false) : copL left L = L := by
  unfold copL
  exact List.filter_eq_self.2 fun f _ => by rw [h]; rfl
theorem copL_all {D : DataW Unit} {L : Fis} {G : Lay} (h : FilesOf D L G) : copL (has D) L = [] := by
  unfold copL
  refine List.filter_eq_nil_iff.2 fun f hf => ?_
  rw [h.has, decide_eq_true (show f.name ∈ nms L from List.mem_map.2 ⟨f, hf, rfl⟩)]
  simp
theorem setg_back (w : World) (g i : Nat) (u : Value) : Mod (fun k => k = g) (w.setCell ⟨g, i, none⟩ u) w :=
  ⟨rfl, rfl, rfl, by simp [World.setCell], fun k _ hk => (Below.heap_setCell w ⟨g, i, none⟩ u k hk).symm⟩
theorem Mod.both {F : Nat → Prop} {w w' : World} {g : Nat} {t : TypeId} {cs : Array Value} (h : Mod F w w') (hb : Blk w g t cs) (hg : ¬ F g) (i : Nat) (u : Value) : Mod F (w.setCell ⟨g, i, none⟩ u) (w'.setCell ⟨g, i, none⟩ u) := by
  refine ⟨h.os, h.tape, h.output, by simpa [World.setCell] using h.size, fun k hk hn => ?_⟩
  by_cases e : k = g
  · subst e
    exact ((hb.mod h hg).set_ i u).trans (hb.set_ i u).symm
  · have h1 : k < w.heap.size := by simpa [World.setCell] using hk
    rw [Below.heap_setCell w' ⟨g, i, none⟩ u k e, Below.heap_setCell w ⟨g, i, none⟩ u k e]
    exact h.block k h1 hn
/-- A Disk being made: its block says already how much there will be. -/
def DkV (S : Nat → Prop) (w : World) (bd bm : Nat) (D : DataW Unit) (G : Lay) (d : Ds) (n : Nat) : Prop :=
  Blk w bd 48 #[.int .i64 (d.room : Int), .int .i64 (n : Nat), .map (some bm), .bool d.fu, .int .i64 (d.left : Int)] ∧ DkAt S (w.setCell ⟨bd, 1, none⟩ (.int .i64 (sumB d.L : Nat))) bd bm D G d
section
variable {S F : Nat → Prop} {w w' : World} {bd bm n : Nat} {D : DataW Unit} {G : Lay} {d : Ds}
theorem DkV.mod (h : DkV S w bd bm D G d n) (hm : Mod F w w') (hn : ∀ k, k < w.heap.size → S k → ¬ F k) : DkV S w' bd bm D G d n := by
  have hF := hn _ h.1.lt h.2.sd
  exact ⟨h.1.mod hm hF, h.2.mod (hm.both h.1 hF 1 _) fun k hk => hn k (by simpa [World.setCell] using hk)⟩
theorem DkV.map (h : DkV S w bd bm D G d n) : w.ownsMap Try.prog 9 ptrElem bm d.L.length D :=
  ownsMap_mod h.2.map (setg_back w bd 1 _) fun e => h.2.blk.ne_map h.2.map e.symm
theorem DkV.lt1 (h : DkV S w bd bm D G d n) {f : Fi} (hf : f ∈ d.L) : (G f.name).1 < w.heap.size := by
  have := (h.2.fb f hf).lt
  simpa [World.setCell] using this
theorem DkV.lt2 (h : DkV S w bd bm D G d n) {f : Fi} (hf : f ∈ d.L) {k : Nat} (hk : own (G f.name).2 k) : k < w.heap.size := by
  have := (h.2.fo f hf).lt hk
  simpa [World.setCell] using this
theorem DkV.done (h : DkV S w bd bm D G d (sumB d.L)) : DkAt S w bd bm D G d := h.2.self (setg_back w bd 1 _) h.1 h.2.lf
theorem DkV.laid (h : DkV S w bd bm D G d n) {x : List UInt8} (hx : x ∉ nms d.L) {g : Nat} {u : Value} {b : List UInt8} {last : Nat} (hm : Mod (fun k => k = bm) w w') (hM : w'.ownsMap Try.prog 9 ptrElem bm (d.L.length + 1) (D.put (.string x) (.lit (.int .i64 (g : Nat)))))
    (hg : Blk w g 55 (fcells u last)) (ho : Own w 5 u (b.map bv)) (hl : last ≤ b.length ∧ 1 ≤ x.length ∧ x.length ≤ 64) (hsg : S g ∧ ∀ k, own u k → S k) (hap : ∀ f ∈ d.L, g ≠ (G f.name).1 ∧ ∀ k, own u k → ¬ own (G f.name).2 k) (hroom : sumB d.L + b.length ≤ d.room) (hfew : d.L.length < 4096) :
    DkV S w' bd bm (D.put (.string x) (.lit (.int .i64 (g : Nat)))) (upd G x (g, u)) { d with L := putF d.L ⟨x, b, last⟩ } n := by
  have hbm : bd ≠ bm := h.2.blk.ne_map h.2.map
  have hb := h.1.mod hm hbm
  have hs := setg_mod w bd 1 (.int .i64 (sumB d.L : Nat))
  refine ⟨hb, ?_⟩
  have hs2 := setg_mod w' bd 1 (.int .i64 (sumB (putF d.L ⟨x, b, last⟩) : Nat))
  refine h.2.laid hx (((setg_back w bd 1 _).mono (G := fun k => k = bd ∨ k = bm) fun _ _ h => .inl h).then_ hm (fun _ _ h => .inr h) |>.then_ hs2 fun _ _ h => .inl h) ?_ ?_ ?_ ?_ hl hsg hap hroom hfew
  · exact hb.set_ 1 _
  · exact ownsMap_mod hM hs2 fun e => hbm e.symm
  · exact hg.mod hs fun e => by rw [e] at hg; exact absurd (hg.ty_eq h.1) (by decide)
  · exact ho.mod hs fun k hk e => by
      obtain ⟨cur, hc⟩ := ho.ty hk
      rw [e] at hc
      exact absurd (hc.ty_eq h.1) (by decide)
set_option maxHeartbeats 16000000 in
theorem copy_any {v : Value} (h : Dk S w v d) :
    Calls Try.prog 8 #[v] w fun e w' => ∃ bo, e = .returned (pv bo) ∧ Dk (fun k => w.heap.size ≤ k) w' (pv bo) { d with fu := false, left := 0 } ∧ Ext w w' := by
  obtain ⟨bd, bm, D, G, rfl, h⟩ := h
  have c0 : w.cell? ⟨bd, 0, none⟩ = some (.int .i64 (d.room : Int)) := h.blk.cell 0
  have c1 : w.cell? ⟨bd, 1, none⟩ = some (.int .i64 (sumB d.L : Nat)) := h.blk.cell 1
  have c2 : w.cell? ⟨bd, 2, none⟩ = some (.map (some bm)) := h.blk.cell 2
  have hM := h.map
  have hof := h.of
  have hrise := h.rise
  have hrm := h.room
  have hmo := h.most
  have hfw := h.few
  have hbk := h.blk
  have hsz := hof.size
  have hmm : ∀ wx : World, (Instr.makeMap 46 (some (.int .i64 (d.L.length : Int)))).run Try.prog wx = .ok (.map (some wx.heap.size)) (wx.alloc (.map #[] 0)) := fun wx => by
    have : d.L.length ≤ 4096 := hfw
    simp [Instr.makeMap, run_underlying Try.underlying46, Result.andThen]
    rfl
  go_enter Try.func8, Try.ntmps8
  go_upto_region 3 with fail
  have hS0 : ∀ {wx : World}, Ext w wx → wx.cell? ⟨bd, 0, none⟩ = some (.int .i64 (d.room : Int)) ∧ wx.cell? ⟨bd, 1, none⟩ = some (.int .i64 (sumB d.L : Nat)) ∧ wx.cell? ⟨bd, 2, none⟩ = some (.map (some bm)) ∧ Sem.run Try.prog (Builtin.len_ #[46] 3 #[.map (some bm)]) wx = .ok (.int .i64 (d.L.length : Int)) wx := fun {wx} q => by
    have := hbk.mod q fun h => h
    have hln := (ownsMap_mod hM q (fun h => h)).len Try.underlying46 3
    rw [hsz] at hln
    exact ⟨this.cell 0, this.cell 1, this.cell 2, hln⟩
  have q0 : Ext w w.drew := (Mod.refl _ w).drew
  have q1 : Ext w (w.drew.alloc (.map #[] 0)) := q0.alloc _
  go_region_held3 (fun wx => wx.cell? ⟨bd, 0, none⟩ = some (.int .i64 (d.room : Int)) ∧ wx.cell? ⟨bd, 1, none⟩ = some (.int .i64 (sumB d.L : Nat)) ∧ wx.cell? ⟨bd, 2, none⟩ = some (.map (some bm)) ∧ Sem.run Try.prog (Builtin.len_ #[46] 3 #[.map (some bm)]) wx = .ok (.int .i64 (d.L.length : Int)) wx) (first | exact hS0 q0 | exact hS0 q1 | exact hS0 (q1.alloc _)) (fail)
  obtain ⟨w2, hw2⟩ : ∃ w2, w2 = ((w.alloc (.map #[] 0)).alloc (.cells #[.int .i64 (d.room : Int), .int .i64 (sumB d.L : Nat), .map (some w.heap.size), .bool false, .int .i64 0] 48)).drew := ⟨_, rfl⟩
  rw [← hw2]
  have x2 : Ext w w2 := by rw [hw2]; exact (((Mod.refl _ w).alloc _).alloc _).drew
  obtain ⟨bo, hbo⟩ : ∃ bo, bo = w.heap.size + 1 := ⟨_, rfl⟩
  have V2 : DkV (fun k => w.heap.size ≤ k) w2 bo w.heap.size (.map []) (fun _ => (0, .slice none 0 0)) ⟨d.room, [], false, 0⟩ (sumB d.L) := by
    have M0 : (w.alloc (.map #[] 0)).ownsMap Try.prog 9 ptrElem w.heap.size 0 (.map []) := World.ownsMap_made _ _ _ _
    have hz : (w.alloc (.map #[] 0)).heap.size = w.heap.size + 1 := by simp
    have b1 := Blk.new (w.alloc (.map #[] 0)) 48 #[.int .i64 (d.room : Int), .int .i64 (sumB d.L : Nat), .map (some w.heap.size), .bool false, .int .i64 0]
    rw [hz, ← hbo] at b1
    have M1 : w2.ownsMap Try.prog 9 ptrElem w.heap.size 0 (.map []) := by rw [hw2]; exact M0.alloc _
    replace b1 : Blk w2 bo 48 #[.int .i64 (d.room : Int), .int .i64 (sumB d.L : Nat), .map (some w.heap.size), .bool false, .int .i64 0] := by rw [hw2]; exact b1
    refine ⟨b1, by omega, Nat.le_refl _, b1.set_ 1 _, ownsMap_mod M1 (setg_mod w2 bo 1 _) (fun e => by have e : w.heap.size = bo := e; omega), FilesOf.none _, List.Pairwise.nil, (fun f hf => by cases hf), (fun f hf => by cases hf), (fun f hf => by cases hf), (fun f hf => by cases hf), (fun f hf => by cases hf), Nat.zero_le _, hmo, Nat.zero_le _, Nat.zero_le _⟩
  have hM2 := ownsMap_mod hM x2 (fun h => h)
  have d2 : w2.cell? ⟨bd, 2, none⟩ = some (.map (some bm)) := (hS0 x2).2.2.1
  rw [← hbo]
  clear hw2 hS0 q0 q1 hM
  rename_i hHd
  clear hHd hmm
  replace hbo := Lib.hid hbo
  go_wp2_with (first
    | (at_range; refine wpList_range_own _ rfl _ 46 rfl 9 52 keyS Try.underlying46 _ bm d.L.length D rfl hM2 ?_; intro w3 hrg0 hg0 hs0))
  go_frame
  have x3 : Ext w2 w3 := Mod.of_grown hg0 (fun k e => by cases e)
  obtain ⟨r, hr⟩ : ∃ r, r = w2.heap.size := ⟨_, rfl⟩
  obtain ⟨B, hB⟩ : ∃ B, B = w.heap.size := ⟨_, rfl⟩
  have V3 : DkV (fun k => B ≤ k ∧ k ≠ r) w3 bo B (.map []) (fun _ => (0, .slice none 0 0)) ⟨d.room, copL (has D) d.L, false, 0⟩ (sumB d.L) := by
    rw [copL_all hof, hB]
    refine (DkV.mod ⟨V2.1, V2.2.mono fun k hk h => ⟨h, ?_⟩⟩ x3 fun _ _ _ h => h)
    have : k < w2.heap.size := by simpa [World.setCell] using hk
    omega
  have y3 := ext_trans x2 x3
  have hrB : B ≤ r := by rw [hB, hr]; exact x2.size
  rw [← hr] at hrg0
  rw [← hr, ← hB]
  clear hg0 hs0 hM2 V2 c0 c1 c2 d2 x2 x3 hsz
  clear hr
  replace hB := Lib.hid hB
  go_loopw [] (fun wr => ∃ left cnt D' G', wr.ranges Try.prog 9 ptrElem bm r d.L.length D left cnt ∧ DkV (fun k => B ≤ k ∧ k ≠ r) wr bo B D' G' ⟨d.room, copL left d.L, false, 0⟩ (sumB d.L) ∧ Ext w wr) (fun wr => wr.rangeLeft bm r)
  case atStart => exact ⟨_, _, _, _, hrg0, V3, y3⟩
  case round =>
    clear hrg0 V3 y3
    obtain ⟨left, cnt, D', G', hrg, hv, hx⟩ := hrel
    go_wp2_with (at_next; refine wp_nextF hof rfl _ rfl rfl hrg ?_ ?_)
    · intro hc0 hl0
      rw [copL_none left d.L hl0] at hv
      have hd := hv.done
      clear hrg hv hc0 hof
      go_wp2_with fail
      go_ret
      exact ⟨_, rfl, ⟨bo, B, D', G', rfl, hd.mono fun k _ hk => hB.out ▸ hk.1⟩, hx⟩
    · intro x w4 cnt2 hxm hl hrg2 hlt hm4 hs4 hen
      obtain ⟨f, hf, rfl⟩ := List.mem_map.1 hxm
      obtain ⟨hn1, hn2, hn3⟩ := h.fl f hf
      have y4 : Ext w w4 := hx.trans hm4 (fun _ _ h => h) (fun k hk e => by have := hB.out; omega)
      have V4 := hv.mod hm4 (fun k _ hk e => hk.2 e)
      have hd4 := h.mod y4 (fun _ _ _ h => h)
      have hgb := hd4.fb f hf
      have hgo := hd4.fo f hf
      have hnew := copL_new (L := d.L) hl
      have hstep := copL_step hrise hf hl
      have hbig := len_of_mem hrise hf
      have hsm : sumB (copL left d.L) + f.b.length ≤ d.room := by
        have h1 := (sumB_putF (f := f) (copL_rise hrise left)).1
        have hget : getF (copL left d.L) f.name = none := by
          cases e : getF (copL left d.L) f.name with
          | none => rfl
          | some z => exact absurd (getF_iff.2 (by rw [e]; rfl)) hnew
        rw [hget, ← hstep] at h1
        simp only [lenB] at h1
        have : sumB (copL (fun z => left z && !z.sameKey (.string f.name)) d.L) ≤ sumB d.L := sumB_filter _ _
        omega
      have hle : (copL left d.L).length < 4096 := by
        have h1 := (sumB_putF (f := f) (copL_rise hrise left)).2
        have hget : getF (copL left d.L) f.name = none := by
          cases e : getF (copL left d.L) f.name with
          | none => rfl
          | some z => exact absurd (getF_iff.2 (by rw [e]; rfl)) hnew
        rw [hget, ← hstep] at h1
        simp only [one] at h1
        have : (copL (fun z => left z && !z.sameKey (.string f.name)) d.L).length ≤ d.L.length := List.length_filter_le _ _
        omega
      have hmx : (copL left d.L).length < maxLen := by simp only [maxLen]; omega
      obtain ⟨u0, hu0⟩ : ∃ u0, u0 = (G f.name).2 := ⟨_, rfl⟩
      rw [← hu0] at hgb hgo
      generalize (G f.name).1 = g at *
      obtain ⟨A, c, rfl⟩ := hgo.shape
      rw [List.length_map] at hgb hgo hu0
      have hb1 : bo ≠ B := V4.2.blk.ne_map V4.2.map
      have hb2 : g ≠ B := hgb.ne_map V4.map
      have hS4 : ∀ {wx : World}, Mod (fun k => k = B) w4 wx → wx.cell? ⟨bo, 2, none⟩ = some (.map (some B)) ∧ wx.cell? ⟨g, 0, none⟩ = some (.slice A f.b.length c) ∧ wx.cell? ⟨g, 1, none⟩ = some (.int .i64 (f.last : Int)) := fun {wx} q => by
        have b1 := V4.1.mod q hb1
        have b2 := hgb.mod q hb2
        exact ⟨b1.cell 2, b2.cell 0, b2.cell 1⟩
      have q0 : Ext w4 w4.drew := (Mod.refl _ _).drew
      have p0 : Mod (fun k => k = B) w4 w4.drew := (Mod.refl _ _).drew
      have hown := own_any ((hgo.mod q0 fun _ _ h => h).sl) (by omega)
      have hMs := V4.map
      have hfin : ∀ (w6 w7 : World) (u : Value), Own w6 5 u (f.b.map bv) → Fresh w4.drew.heap.size u → Ext w4.drew w6 → w7.ownsMap Try.prog 9 ptrElem B ((copL left d.L).length + 1) (D'.put (.string f.name) (.lit (.int .i64 (w6.heap.size : Nat)))) → Mod (fun k => k = B) (w6.alloc (.cells #[u, .int .i64 (f.last : Int)] 55)) w7 →
          w7.ranges Try.prog 9 ptrElem bm r d.L.length D (fun z => left z && !z.sameKey (.string f.name)) cnt2 ∧ (∃ G2, DkV (fun k => B ≤ k ∧ k ≠ r) w7 bo B (D'.put (.string f.name) (.lit (.int .i64 (w6.heap.size : Nat)))) G2 ⟨d.room, copL (fun z => left z && !z.sameKey (.string f.name)) d.L, false, 0⟩ (sumB d.L)) ∧ Ext w w7 := by
        intro w6 w7 u o6 f6 x6 M7 m7
        have x46 : Ext w4 w6 := ext_trans q0 x6
        have xa : Ext w6 (w6.alloc (.cells #[u, .int .i64 (f.last : Int)] 55)) := (Mod.refl _ _).alloc _
        have x47 := ext_trans x46 xa
        have V6 := V4.mod x47 (fun _ _ _ h => h)
        have hz := x46.size
        have hr4 := hrg2.lt
        have hrl := hrg2.owns.lt
        have hBw : w.heap.size = B := hB.out.symm
        have hbl : bm < w.heap.size := h.map.lt
        have hV := V6.laid hnew (last := f.last) (g := w6.heap.size) (u := u) (b := f.b) m7 M7 (Blk.new _ _ _) (o6.mod xa fun _ _ h => h) ⟨hn1, hn2, hn3⟩ ⟨⟨by have := y4.size; omega, by omega⟩, fun k hk => ⟨by have := f6 k hk; have h1 : w4.heap.size ≤ k := this; have := y4.size; omega, by have := f6 k hk; have h1 : w4.heap.size ≤ k := this; omega⟩⟩
          (fun f' hf' => ⟨by have := V4.lt1 hf'; omega, fun k hk hk2 => by have := f6 k hk; have h1 : w4.heap.size ≤ k := this; have := V4.lt2 hf' hk2; omega⟩) hsm hle
        rw [show putF (copL left d.L) ⟨f.name, f.b, f.last⟩ = copL (fun z => left z && !z.sameKey (.string f.name)) d.L from hstep.symm] at hV
        have m47 : Mod (fun k => k = B) w4 w7 := (x47.mono (G := fun k => k = B) fun _ _ h => h.elim).then_ m7 fun _ _ h => h
        exact ⟨ranges_mod hrg2 m47 (fun e => by omega) (fun e => by have := hv.2.sm.2; exact this e.symm), ⟨_, hV⟩, (y4.mono (G := fun k => False) fun _ _ h => h).trans m47 (fun _ _ h => h) (fun k hk e => by omega)⟩
      have hml := hrg.left_eq
      replace hfin := Lib.hid hfin
      clear hb1 hb2 hgo hgb V4 hd4 hrg hv hm4 hs4 hnew hstep hsm hle hu0 y4 hrg2 hrm hmo hfw hbig hn1
      go_upto_region 7 with fail
      go_region_held3 (fun wx => wx.cell? ⟨bo, 2, none⟩ = some (.map (some B)) ∧ wx.cell? ⟨g, 0, none⟩ = some (.slice A f.b.length c) ∧ wx.cell? ⟨g, 1, none⟩ = some (.int .i64 (f.last : Int))) (first | exact hS4 p0 | exact q6 | exact q7 | exact q8)
        (first | (go_at_call 17; refine hown.mono ?_; rintro e w6 ⟨u, rfl, o6, f6, -, x6⟩; obtain ⟨A6, l6, c6, rfl⟩ : ∃ A n c, u = Value.slice A n c := (by obtain ⟨A, c, h⟩ := o6.shape; exact ⟨A, _, c, h⟩); have p6 : Mod (fun k => k = B) w4 w6 := (ext_trans q0 x6).mono (fun _ _ h => h.elim); have q6 := hS4 p6; have p7 := p6.alloc (.cells #[.slice A6 l6 c6, .int .i64 (f.last : Int)] 55); have q7 := hS4 p7; obtain ⟨w7, hrun, M7, t7⟩ := (ownsMap_mod hMs ((ext_trans q0 x6).alloc (.cells #[.slice A6 l6 c6, .int .i64 (f.last : Int)] 55)) (fun h => h)).store keyS Try.underlying46 hmx (keyOf_sv f.name (by omega)) (ptr_mk w6.heap.size); have q8 := hS4 (p7.then_ (mod_turned t7) fun _ _ h => h); have hff := hfin.out w6 w7 _ o6 f6 x6 M7 (mod_turned t7); clear M7 t7 o6 f6 x6))
      obtain ⟨hrg7, ⟨G2, V7⟩, x7⟩ := hff
      go_wp2_with fail
      exact ⟨⟨_, cnt2, _, G2, hrg7, V7, x7⟩, by rw [hrg7.left_eq, hml]; exact hlt⟩
end
end Go.Proofs.Ytnmfkfjeihjkeaa
