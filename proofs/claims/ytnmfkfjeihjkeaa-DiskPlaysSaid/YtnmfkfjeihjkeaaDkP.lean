/- disk: a crash. -/
import Derived.Test.YtnmfkfjeihjkeaaDkO
namespace Go.Proofs.Ytnmfkfjeihjkeaa
open Go.RowKit Go.Maps Go.WideMaps
set_option maxRecDepth 100000

theorem cmod (a m u : Nat) : (a : Int) + (m : Int) % ((u : Int) + 1) = ((a + m % (u + 1) : Nat) : Int) := by push_cast; rfl
theorem cmod2 (a m u : Nat) (ha : a ≤ 1073741824) (hu : u ≤ 1073741824) : IntKind.i64.wrap ((a : Int) + (m : Int).tmod ((u : Int) + 1)) = ((a + m % (u + 1) : Nat) : Int) := by
  rw [Int.tmod_eq_emod_of_nonneg (by omega), cmod, IntKind.wrap_i64]
  have := Nat.mod_lt m (show 0 < u + 1 by omega)
  omega
theorem max_nat (draw : Int) : ∃ m : Nat, max draw 0 = (m : Int) ∧ (max draw 0).toNat = m := by
  obtain ⟨m, hm⟩ := Int.eq_ofNat_of_zero_le (show 0 ≤ max draw 0 by omega)
  exact ⟨m, hm, by omega⟩
theorem after_cut {S : Nat → Prop} {w : World} {bd bm : Nat} {D : DataW Unit} {G : Lay} {L : Fis} {room left : Nat} {fu : Bool} {f : Fi} {n : Nat} {u : Value} (hr : Rise L) (hf : f ∈ L) (hn : f.last ≤ n) (h : DkAt S w bd bm D (upd G f.name ((G f.name).1, u)) ⟨room, putF L (cutF f n), fu, left⟩) :
    w.cell? ⟨(G f.name).1, 1, none⟩ = some (.int .i64 (f.last : Int)) ∧ w.cell? ⟨(G f.name).1, 0, none⟩ = some u ∧ Blk w (G f.name).1 55 (fcells u f.last) ∧ Own w 5 u ((f.b.take n).map bv) := by
  have hm : cutF f n ∈ putF L (cutF f n) := (mem_putF hr _).2 (.inl rfl)
  have hb := h.fb _ hm
  have ho := h.fo _ hm
  rw [show (cutF f n).name = f.name from rfl, upd_same, show (cutF f n).last = min f.last n from rfl, Nat.min_eq_left hn] at hb
  rw [show (cutF f n).name = f.name from rfl, upd_same] at ho
  exact ⟨hb.cell 1, hb.cell 0, hb, ho⟩
theorem after_last {S : Nat → Prop} {w : World} {bd bm : Nat} {D : DataW Unit} {G : Lay} {L : Fis} {room left : Nat} {fu : Bool} {f : Fi} {n : Nat} {u : Value} (hr : Rise L) (hf : f ∈ L) (hn : f.last ≤ n) (hn2 : n ≤ f.b.length) (h : DkAt S w bd bm D (upd G f.name ((G f.name).1, u)) ⟨room, putF L (cutF f n), fu, left⟩) :
    ∃ G2, DkAt (Grow S w) (w.setCell ⟨(G f.name).1, 1, none⟩ (.int .i64 (n : Int))) bd bm D G2 ⟨room, putF L ⟨f.name, f.b.take n, n⟩, fu, left⟩ := by
  have hm : cutF f n ∈ putF L (cutF f n) := (mem_putF hr _).2 (.inl rfl)
  obtain ⟨_, _, hb, ho⟩ := after_cut hr hf hn h
  have hsum : sumB (putF (putF L (cutF f n)) ⟨f.name, f.b.take n, n⟩) = sumB (putF L (cutF f n)) := by
    have h1 := (sumB_putF (f := ⟨f.name, f.b.take n, n⟩) h.rise).1
    rw [show getF (putF L (cutF f n)) (⟨f.name, f.b.take n, n⟩ : Fi).name = some (cutF f n) from getF_of_mem h.rise hm] at h1
    have h2 : lenB (some (cutF f n)) = (f.b.take n).length := rfl
    rw [h2] at h1
    exact Nat.add_right_cancel h1
  have hput : putF (putF L (cutF f n)) ⟨f.name, f.b.take n, n⟩ = putF L ⟨f.name, f.b.take n, n⟩ := putF_put hr rfl
  have hne : ¬ bd = (G f.name).1 := fun e => by
    have := h.bd_ne hm
    rw [show (cutF f n).name = f.name from rfl, upd_same] at this
    exact this e.symm
  have hmg := setg_mod w (G f.name).1 1 (.int .i64 (n : Int))
  have hG : upd G f.name ((G f.name).1, u) (cutF f n).name = ((G f.name).1, u) := upd_same _ _ _
  have hbk : Blk (w.setCell ⟨(G f.name).1, 1, none⟩ (.int .i64 (n : Int))) bd 48 (dcells { (⟨room, putF L (cutF f n), fu, left⟩ : Ds) with L := putF (putF L (cutF f n)) ⟨f.name, f.b.take n, n⟩ } bm) := by
    have := h.blk.far (p := ⟨(G f.name).1, 1, none⟩) hne (.int .i64 (n : Int))
    simp only [dcells, hsum] at this ⊢
    exact this
  have h2 := h.file hm (u := u) (b := f.b.take n) (last := n) (fu := fu) (left := left) hmg (fun k _ hk => by rw [hG]; exact .inr (.inl hk)) (by rw [hG]; exact .inl rfl) hbk (by rw [hG]; exact hb.set_ 1 _) (ho.mod hmg fun k hk e => by
    have := (h.own_ne hm (k := k) (by rw [hG]; exact hk)).2.2 _ hm
    rw [hG] at this
    exact this e) (by rw [List.length_take]; omega) (Nat.add_le_add_right h.room _) h.lf
  have h3 : DkAt (Grow S w) (w.setCell ⟨(G f.name).1, 1, none⟩ (.int .i64 (n : Int))) bd bm D _ ⟨room, putF (putF L (cutF f n)) ⟨f.name, f.b.take n, n⟩, fu, left⟩ := h2
  rw [hput] at h3
  exact ⟨_, h3⟩
set_option maxHeartbeats 16000000 in
theorem crash_any {S : Nat → Prop} {w : World} {d : Ds} {v : Value} (h : Dk S w v d) (draw : Int) (hd0 : draw ≤ 9223372036854775807) :
    Calls Try.prog 11 #[v, .int .i64 draw] w fun e w' => e = .returned (.tuple #[]) ∧ Dk (Grow S w) w' v (crashD draw d) ∧ Mod S w w' := by
  obtain ⟨bd, bm, D, G, rfl, h⟩ := h
  obtain ⟨m, hm1, hm2⟩ := max_nat draw
  have hmax : ∀ (ts : Array TypeId) (t : TypeId) (wx : World), (Builtin.max_ ts t #[.int .i64 draw, .int .i64 0]).run Try.prog wx = .ok (.int .i64 (m : Int)) wx := fun ts t wx => by
    rw [run_max_int2, ← hm1]
    congr 2
    split <;> omega
  have c2 : w.cell? ⟨bd, 2, none⟩ = some (.map (some bm)) := h.blk.cell 2
  have hM := h.map
  have hof := h.of
  have hrise := h.rise
  have hcl := crashL_all draw hof
  go_enter Try.func11, Try.ntmps11
  go_wp2_with (first
    | (at_range; refine wpList_range_own _ rfl _ 46 rfl 9 52 keyS Try.underlying46 _ bm d.L.length D rfl hM ?_; intro w3 hrg0 hg0 hs0))
  go_frame
  have x3 : Ext w w3 := Mod.of_grown hg0 (fun k e => by cases e)
  have h3 : DkAt (fun k => Grow S w k ∧ k ≠ w.heap.size) w3 bd bm D G { d with L := crashL draw (has D) d.L } := by
    have e : ({ d with L := crashL draw (has D) d.L } : Ds) = d := by rw [hcl]
    rw [e]
    exact (h.mono (T := fun k => Grow S w k ∧ k ≠ w.heap.size) fun k hk hS => ⟨.inl hS, by omega⟩).mod x3 (fun _ _ _ h => h)
  have hSd := h.sd
  clear hg0 hs0 hM h c2 hcl
  obtain ⟨r, hr⟩ : ∃ r, r = w.heap.size := ⟨_, rfl⟩
  rw [← hr] at hrg0 h3 ⊢
  have m3 : Mod S w w3 := x3.mono fun _ _ h => h.elim
  have hr2 : w.heap.size ≤ r := by omega
  clear hr x3
  go_loopw [] (fun wr => ∃ left cnt G', wr.ranges Try.prog 9 ptrElem bm r d.L.length D left cnt ∧ DkAt (fun k => Grow S w k ∧ k ≠ r) wr bd bm D G' { d with L := crashL draw left d.L } ∧ Mod S w wr) (fun wr => wr.rangeLeft bm r)
  case atStart => exact ⟨_, _, G, hrg0, h3, m3⟩
  case round =>
    clear hrg0 h3 m3
    obtain ⟨left, cnt, G', hrg, hd, hm⟩ := hrel
    have hof' : FilesOf D d.L G' := by
      have := hd.of
      exact ⟨hof.tidy, hof.has, fun x hx => this.key x (by rw [show ({ d with L := crashL draw left d.L } : Ds).L = crashL draw left d.L from rfl, nms_crashL]; exact hx), hof.size⟩
    go_wp2_with (at_next; refine wp_nextF hof' rfl _ rfl rfl hrg ?_ ?_)
    · intro hc0 hl0
      have e : ({ d with L := crashL draw left d.L } : Ds) = { d with L := d.L.map (crashF draw) } := by rw [crashL_none draw left d.L hl0]
      rw [e] at hd
      have hc := fuse_any hd (-1) (by omega)
      clear hof' hof hrg hd hc0 hl0
      go_wp2_with fail
      refine hc.mono ?_
      rintro e w4 ⟨rfl, h4, m4⟩
      clear hc
      go_wp2_with fail
      go_end0
      exact ⟨rfl, ⟨bd, bm, D, G', rfl, h4.mono fun k _ hk => hk.1⟩, hm.then_ m4 fun k _ hk => hk ▸ hSd⟩
    · intro x w4 cnt2 hx hl hrg2 hlt hm4 hs4 hen
      obtain ⟨f, hf, rfl, hfc⟩ := crashL_get (draw := draw) hx hl
      have hd4 := hd.mod hm4 (fun k _ hk e => hk.2 e)
      have y4 : Mod S w w4 := hm.trans hm4 (fun _ _ h => h) (fun k hk e => by omega)
      have hrl := hd4.rise
      have hstep := crashL_step (draw := draw) hrise hf hl
      have hfl := hd4.fl f hfc
      obtain ⟨hn1, hn2⟩ := crashN_le draw hfl.1
      have hcut := fun (wx : World) (hx : Ext w4 wx) (x : Int) (hc : x = (crashN draw f : Nat)) => by
        have := cut_any3 (hd4.mod hx (fun _ _ _ h => h)) hfc hn2
        rw [← hc] at this
        exact this
      obtain ⟨A, c, hv⟩ := (hd4.fo f hfc).shape
      rw [List.length_map] at hv
      have g0 : w4.cell? ⟨(G' f.name).1, 0, none⟩ = some (.slice A f.b.length c) := by rw [← hv]; exact (hd4.fb f hfc).cell 0
      have g1 : w4.cell? ⟨(G' f.name).1, 1, none⟩ = some (.int .i64 (f.last : Int)) := (hd4.fb f hfc).cell 1
      have hbk := hd4.blk
      have hgk := hd4.fb f hfc
      have hsk := (hd4.fs f hfc).1.1
      have hlen := len_le_sum hd4.rise hfc
      have hro := hd4.room
      have hmo := hd4.most
      obtain ⟨u, hu⟩ : ∃ u : Nat, (f.b.length : Int) - (f.last : Int) = (u : Int) := ⟨f.b.length - f.last, by omega⟩
      have hu2 : u = f.b.length - f.last := by omega
      have hcn : crashN draw f = f.last + m % (u + 1) := by rw [crashN, hm2, hu2]
      have hub : u ≤ 1073741824 := by simp only at *; omega
      have hmb : (m : Int) ≤ 9223372036854775807 := by omega
      have hmd := Nat.mod_lt m (show 0 < u + 1 by omega)
      have hw1 : IntKind.i64.wrap (u : Int) = u := by rw [IntKind.wrap_i64]; omega
      have hw2 : IntKind.i64.wrap ((u : Int) + 1) = (u : Int) + 1 := by rw [IntKind.wrap_i64]; omega
      have hnz : ¬ ((u : Int) + 1 = 0) := by omega
      have hw3 : IntKind.i64.wrap ((f.last : Int) + (m : Int) % ((u : Int) + 1)) = (f.last : Int) + (m : Int) % ((u : Int) + 1) := by rw [cmod, IntKind.wrap_i64]; simp only at *; omega
      have hlb : f.last ≤ 1073741824 := by simp only at *; omega
      replace hu2 := Lib.hid hu2
      replace hcn := Lib.hid hcn
      clear hof hof' hv hd hm1 hm2 hro hmo hlen hfl
      go_wp2_with fail
      go_quiet (fail)
      go_wp2_with fail
      obtain ⟨w5, hw5⟩ : ∃ w5, w5 = w4.drewN nq := ⟨_, rfl⟩
      have x5 : Ext w4 w5 := by rw [hw5]; exact (Mod.refl _ _).drewN nq
      have k1 : w5.cell? ⟨(G' f.name).1, 1, none⟩ = some (.int .i64 (f.last : Int)) := by rw [hw5]; exact g1
      have hrg5 : w5.ranges Try.prog 9 ptrElem bm r d.L.length D (fun z => left z && !z.sameKey (.string f.name)) cnt2 := by rw [hw5]; exact hrg2
      rw [← hw5]
      clear hw5
      have hcut5 := hcut w5.drew x5.drew
      go_region_held3 (fun w' => w'.cell? ⟨(G' f.name).1, 1, none⟩ = some (.int .i64 (f.last : Int))) (first | exact q6 | go_keep)
        (first | (go_at_call 22; refine (hcut5 _ (by rw [hcn.out]; exact cmod2 _ _ _ hlb hub)).mono ?_; rintro e w6 ⟨rfl, uu, h6, m6⟩; have q6 := (after_cut hrl hfc hn1 h6).1))
      obtain ⟨_, e0, e1, e2⟩ := after_cut hrl hfc hn1 h6
      have z1 := e1.frozen 1
      obtain ⟨A6, c6, rfl⟩ := e2.shape
      rw [List.length_map, List.length_take, Nat.min_eq_left hn2] at e0
      have hfin := after_last hrl hfc hn1 hn2 h6
      have m56 : Mod (fun k => k = bd ∨ k = (G' f.name).1) w5 w6 := ((Mod.refl _ w5).drew).then_ m6 (fun _ _ h => h)
      have hb5 := hbk.mod x5 (fun h => h)
      have hg5 := hgk.mod x5 (fun h => h)
      have n1 := hb5.ne_iter hrg5
      have n2 := hg5.ne_iter hrg5
      have n3 := hb5.ne_map hrg5.owns
      have n4 := hg5.ne_map hrg5.owns
      have hrg6 := ranges_mod hrg5 m56 (by rintro (e | e) <;> simp_all) (by rintro (e | e) <;> simp_all)
      obtain ⟨G2, hfin⟩ := hfin
      have hmg := setg_mod w6 (G' f.name).1 1 (.int .i64 (crashN draw f : Nat))
      have hrg7 := ranges_mod hrg6 hmg (fun e => n4 e.symm) (fun e => n2 e.symm)
      have hL : crashL draw (fun z => left z && !z.sameKey (.string f.name)) d.L = putF (crashL draw left d.L) ⟨f.name, f.b.take (crashN draw f), crashN draw f⟩ := hstep
      have hsg : ∀ k, k < w.heap.size → k = (G' f.name).1 → S k := fun k hk e => by
        subst e
        exact hsk.elim id fun h => by omega
      have m6' : Mod S w w6 := (y4.then_ x5 fun _ _ h => h.elim).then_ m56 fun k hk h => h.elim (fun e => e ▸ hSd) (hsg k hk)
      have m7 : Mod S w (w6.setCell ⟨(G' f.name).1, 1, none⟩ (.int .i64 (crashN draw f : Nat))) := m6'.then_ hmg (hsg)
      have hsz6 : w5.heap.size ≤ w6.heap.size := m56.size
      have hsz4 : w4.heap.size ≤ w5.heap.size := x5.size
      have hszw := y4.size
      have hrlt := hrg2.lt
      have hml := hrg.left_eq
      have hfin2 : DkAt (fun k => Grow S w k ∧ k ≠ r) (w6.setCell ⟨(G' f.name).1, 1, none⟩ (.int .i64 (crashN draw f : Nat))) bd bm D G2 { d with L := crashL draw (fun z => left z && !z.sameKey (.string f.name)) d.L } := by
        rw [hL]
        refine hfin.mono fun k _ hk => ?_
        rcases hk with (hk | hk) | hk
        · exact hk
        · have hk' : w5.heap.size ≤ k := hk
          exact ⟨.inr (by omega), by omega⟩
        · exact ⟨.inr (by omega), by omega⟩
      clear hfin hL hstep h6 m56 hb5 hg5 n1 n2 n3 n4 hrg6 hbk hgk hcut hcut5 hsk hd4 hrg2 hrg5 hsg e1 e2 q6
      generalize crashN draw f = cn at *
      generalize (G' f.name).1 = g at *
      go_wp2_with fail
      exact ⟨⟨_, cnt2, G2, hrg7, hfin2, m7⟩, by rw [hrg7.left_eq, hml]; exact hlt⟩
end Go.Proofs.Ytnmfkfjeihjkeaa
