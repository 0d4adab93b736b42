/- disk: a range over files; a crash. -/
import Derived.Test.YtblfhonfjljndaaDoorDkN
import Derived.Test.YtblfhonfjljndaaDoorIxF
import Derived.StillTailTactics
import Derived.Test.YtblfhonfjljndaaDoorOctR
import Derived.Lib.SlBytesConst
namespace Go.Proofs.YtblfhonfjljndaaDoor
open Go.RowKit Go.Maps Go.WideMaps
set_option maxRecDepth 100000

theorem wp_nextF {w : World} {ops : Array Oper} {rest : List Oper} {o : Oper} {a : Act} {Q : Exit → Act → World → Prop} {bm r n : Nat} {D : DataW Unit} {left : Lit → Bool} {cnt : Nat} {L : Fis} {G : Lay} (hof : FilesOf D L G)
    (hg : o.guard = none) (it : Operand) (hop : o.op = Op.next it false) (hit : a.eval it = .pointer (some ⟨r, 0, none⟩)) (h : w.ranges Tryd.prog 9 ptrElem bm r n D left cnt)
    (hDone : cnt = 0 → (∀ kl, left kl = false) → wpList Tryd.prog ops Q rest (a.put o.dst (.tuple #[.bool false])) w)
    (hMore : ∀ (x : List UInt8) (w' : World) (cnt' : Nat), x ∈ nms L → left (.string x) = true → w'.ranges Tryd.prog 9 ptrElem bm r n D (fun z => left z && !z.sameKey (.string x)) cnt' → cnt' < cnt → Mod (fun k => k = r) w w' → w'.heap.size = w.heap.size →
      (Instr.entry (.pointer (some ⟨r, 0, none⟩))).run Tryd.prog w' = .ok (.tuple #[sv x, pv (G x).1]) w' → wpList Tryd.prog ops Q rest (a.put o.dst (.tuple #[.bool true, sv x, pv (G x).1])) w') : wpList Tryd.prog ops Q (o :: rest) a w := by
  refine wpList_next_ranges w hg it hop 9 keyS ptrElem sv pvo invS ptr_some bm r n D left cnt hit h hDone ?_
  intro x c kl y w' cnt' hkey hlk hv hat hrg hlt hgr hsz hen
  obtain ⟨rfl, _⟩ := keyIs hkey
  have hin : x ∈ nms L := by
    have := has_true_of_atKey hat
    rw [hof.has] at this
    simpa using this
  have hy := (hat .nil).symm.trans (hof.key x hin)
  obtain ⟨y1, ps⟩ := y
  simp only at hy
  subst hy
  have hc := ptr_inv hv
  rw [hc] at hen ⊢
  exact hMore x w' cnt' hin hlk hrg hlt (Mod.of_grown hgr fun k e => by injection e with e; exact e.symm) hsz hen
theorem Blk.ne_iter {H : Type} {P : Program} {k : TypeId} {R : Value → Option (DataW H × List MemPlace)} {w : World} {b r n : Nat} {D : DataW H} {left : Lit → Bool} {cnt g : Nat} {t : TypeId} {cs : Array Value} (h : Blk w g t cs) (hm : w.ranges P k R b r n D left cnt) : g ≠ r := by
  rintro rfl
  obtain ⟨es, clock, since, seen, c0, hb, F', hs, hD, hr, rest⟩ := hm
  unfold Blk at h
  rw [h] at hr
  cases hr

def crashN (draw : Int) (f : Fi) : Nat := f.last + (max draw 0).toNat % (f.b.length - f.last + 1)
def crashF (draw : Int) (f : Fi) : Fi := ⟨f.name, f.b.take (crashN draw f), crashN draw f⟩
def crashD (draw : Int) (d : Ds) : Ds := { d with L := d.L.map (crashF draw), fu := false, left := 0 }
theorem crashN_le (draw : Int) {f : Fi} (h : f.last ≤ f.b.length) : f.last ≤ crashN draw f ∧ crashN draw f ≤ f.b.length := by
  unfold crashN
  have := Nat.mod_lt (max draw 0).toNat (show 0 < f.b.length - f.last + 1 by omega)
  omega
/-- Those that have come are crashed. -/
def crashL (draw : Int) (left : Lit → Bool) (L : Fis) : Fis := L.map fun f => if left (.string f.name) then f else crashF draw f
theorem crashL_name (draw : Int) (left : Lit → Bool) (f : Fi) : (if left (.string f.name) = true then f else crashF draw f).name = f.name := by split <;> rfl
theorem nms_crashL (draw : Int) (left : Lit → Bool) (L : Fis) : nms (crashL draw left L) = nms L := by
  unfold nms crashL
  rw [List.map_map]
  exact List.map_congr_left fun f _ => crashL_name draw left f
theorem strikeS (left : Lit → Bool) (x k : List UInt8) : (left (.string k) && !(Lit.string k).sameKey (.string x)) = (left (.string k) && !(k == x)) := by
  by_cases h : k = x
  · subst h; simp [Lit.sameKey]
  · simp [Lit.sameKey, h]
theorem crashL_step {draw : Int} {left : Lit → Bool} {L : Fis} (hr : Rise L) {f : Fi} (hf : f ∈ L) (hl : left (.string f.name) = true) : crashL draw (fun z => left z && !z.sameKey (.string f.name)) L = putF (crashL draw left L) (crashF draw f) := by
  have hr1 : ∀ lf, Rise (crashL draw lf L) := fun lf => by unfold Rise; rw [nms_crashL]; exact hr
  refine eq_of_nms (hr1 _) (rise_putF (hr1 _)) fun x => ?_
  rw [mem_putF (hr1 _)]
  unfold crashL
  rw [List.mem_map, List.mem_map]
  have hne := rise_ne hr
  constructor
  · rintro ⟨g, hg, rfl⟩
    simp only [strikeS]
    by_cases e : g = f
    · subst e; left; simp
    · have hn : g.name ≠ f.name := fun h => e (by
        have h1 := getF_of_mem hr hg
        have h2 := getF_of_mem hr hf
        rw [h, h2] at h1
        exact (Option.some.inj h1).symm)
      right
      refine ⟨⟨g, hg, ?_⟩, ?_⟩
      · simp [hn]
      · rw [show (crashF draw f).name = f.name from rfl]
        split
        · exact hn
        · exact hn
  · rintro (rfl | ⟨⟨g, hg, rfl⟩, hn⟩)
    · exact ⟨f, hf, by simp [strikeS]⟩
    · refine ⟨g, hg, ?_⟩
      rw [show (crashF draw f).name = f.name from rfl, crashL_name] at hn
      simp [strikeS, hn]
theorem crashL_none (draw : Int) (left : Lit → Bool) (L : Fis) (h : ∀ kl, left kl = false) : crashL draw left L = L.map (crashF draw) := by
  unfold crashL
  exact List.map_congr_left fun f _ => by rw [h]; rfl
theorem crashL_all (draw : Int) {D : DataW Unit} {L : Fis} {G : Lay} (h : FilesOf D L G) : crashL draw (has D) L = L := by
  unfold crashL
  conv => rhs; rw [← List.map_id L]
  exact List.map_congr_left fun f hf => by rw [h.has, decide_eq_true (show f.name ∈ nms L from List.mem_map.2 ⟨f, hf, rfl⟩)]; rfl
theorem crashL_get {draw : Int} {left : Lit → Bool} {L : Fis} {x : List UInt8} (hx : x ∈ nms L) (hl : left (.string x) = true) : ∃ f ∈ L, f.name = x ∧ f ∈ crashL draw left L := by
  obtain ⟨f, hf, rfl⟩ := List.mem_map.1 hx
  exact ⟨f, hf, rfl, List.mem_map.2 ⟨f, hf, by rw [if_pos hl]⟩⟩
end Go.Proofs.YtblfhonfjljndaaDoor
namespace Go.Proofs.YtblfhonfjljndaaDoor
open Go.RowKit Go.Maps Go.WideMaps
set_option maxRecDepth 100000

theorem cmod (a m u : Nat) : (a : Int) + (m : Int) % ((u : Int) + 1) = ((a + m % (u + 1) : Nat) : Int) := by push_cast; rfl
theorem cmod2 (a m u : Nat) (ha : a ≤ 1073741824) (hu : u ≤ 1073741824) : IntKind.i64.wrap ((a : Int) + (m : Int).tmod ((u : Int) + 1)) = ((a + m % (u + 1) : Nat) : Int) := by
  rw [Int.tmod_eq_emod_of_nonneg (by omega), cmod, IntKind.wrap_i64]
  have := Nat.mod_lt m (show 0 < u + 1 by omega)
  omega
theorem max_nat (draw : Int) : ∃ m : Nat, max draw 0 = (m : Int) ∧ (max draw 0).toNat = m := by
  obtain ⟨m, hm⟩ := Int.eq_ofNat_of_zero_le (show 0 ≤ max draw 0 by omega)
  exact ⟨m, hm, by omega⟩
theorem after_cut {S : Nat → Prop} {w : World} {bd bm : Nat} {D : DataW Unit} {G : Lay} {L : Fis} {room left : Nat} {fu : Bool} {f : Fi} {n : Nat} {u : Value} (hr : Rise L) (hf : f ∈ L) (hn : f.last ≤ n) (h : DkAt S w bd bm D (upd G f.name ((G f.name).1, u)) ⟨room, putF L (cutF f n), fu, left⟩) :
    w.cell? ⟨(G f.name).1, 1, none⟩ = some (.int .i64 (f.last : Int)) ∧ w.cell? ⟨(G f.name).1, 0, none⟩ = some u ∧ Blk w (G f.name).1 70 (fcells u f.last) ∧ Own w 5 u ((f.b.take n).map bv) := by
  have hm : cutF f n ∈ putF L (cutF f n) := (mem_putF hr _).2 (.inl rfl)
  have hb := h.fb _ hm
  have ho := h.fo _ hm
  rw [show (cutF f n).name = f.name from rfl, upd_same, show (cutF f n).last = min f.last n from rfl, Nat.min_eq_left hn] at hb
  rw [show (cutF f n).name = f.name from rfl, upd_same] at ho
  exact ⟨hb.cell 1, hb.cell 0, hb, ho⟩
theorem after_last {S : Nat → Prop} {w : World} {bd bm : Nat} {D : DataW Unit} {G : Lay} {L : Fis} {room left : Nat} {fu : Bool} {f : Fi} {n : Nat} {u : Value} (hr : Rise L) (hf : f ∈ L) (hn : f.last ≤ n) (hn2 : n ≤ f.b.length) (h : DkAt S w bd bm D (upd G f.name ((G f.name).1, u)) ⟨room, putF L (cutF f n), fu, left⟩) :
    ∃ G2, DkAt (Grow S w) (w.setCell ⟨(G f.name).1, 1, none⟩ (.int .i64 (n : Int))) bd bm D G2 ⟨room, putF L ⟨f.name, f.b.take n, n⟩, fu, left⟩ := by
  have hm : cutF f n ∈ putF L (cutF f n) := (mem_putF hr _).2 (.inl rfl)
  obtain ⟨_, _, hb, ho⟩ := after_cut hr hf hn h
  have hsum : sumB (putF (putF L (cutF f n)) ⟨f.name, f.b.take n, n⟩) = sumB (putF L (cutF f n)) := by
    have h1 := (sumB_putF (f := ⟨f.name, f.b.take n, n⟩) h.rise).1
    rw [show getF (putF L (cutF f n)) (⟨f.name, f.b.take n, n⟩ : Fi).name = some (cutF f n) from getF_of_mem h.rise hm] at h1
    have h2 : lenB (some (cutF f n)) = (f.b.take n).length := rfl
    rw [h2] at h1
    exact Nat.add_right_cancel h1
  have hput : putF (putF L (cutF f n)) ⟨f.name, f.b.take n, n⟩ = putF L ⟨f.name, f.b.take n, n⟩ := putF_put hr rfl
  have hne : ¬ bd = (G f.name).1 := fun e => by
    have := h.bd_ne hm
    rw [show (cutF f n).name = f.name from rfl, upd_same] at this
    exact this e.symm
  have hmg := setg_mod w (G f.name).1 1 (.int .i64 (n : Int))
  have hG : upd G f.name ((G f.name).1, u) (cutF f n).name = ((G f.name).1, u) := upd_same _ _ _
  have hbk : Blk (w.setCell ⟨(G f.name).1, 1, none⟩ (.int .i64 (n : Int))) bd 55 (dcells { (⟨room, putF L (cutF f n), fu, left⟩ : Ds) with L := putF (putF L (cutF f n)) ⟨f.name, f.b.take n, n⟩ } bm) := by
    have := h.blk.far (p := ⟨(G f.name).1, 1, none⟩) hne (.int .i64 (n : Int))
    simp only [dcells, hsum] at this ⊢
    exact this
  have h2 := h.file hm (u := u) (b := f.b.take n) (last := n) (fu := fu) (left := left) hmg (fun k _ hk => by rw [hG]; exact .inr (.inl hk)) (by rw [hG]; exact .inl rfl) hbk (by rw [hG]; exact hb.set_ 1 _) (ho.mod hmg fun k hk e => by
    have := (h.own_ne hm (k := k) (by rw [hG]; exact hk)).2.2 _ hm
    rw [hG] at this
    exact this e) (by rw [List.length_take]; omega) (Nat.add_le_add_right h.room _) h.lf
  have h3 : DkAt (Grow S w) (w.setCell ⟨(G f.name).1, 1, none⟩ (.int .i64 (n : Int))) bd bm D _ ⟨room, putF (putF L (cutF f n)) ⟨f.name, f.b.take n, n⟩, fu, left⟩ := h2
  rw [hput] at h3
  exact ⟨_, h3⟩
set_option maxHeartbeats 16000000 in
theorem crash_any {S : Nat → Prop} {w : World} {d : Ds} {v : Value} (h : Dk S w v d) (draw : Int) (hd0 : draw ≤ 9223372036854775807) :
    Calls Tryd.prog 15 #[v, .int .i64 draw] w fun e w' => e = .returned (.tuple #[]) ∧ Dk (Grow S w) w' v (crashD draw d) ∧ Mod S w w' := by
  obtain ⟨bd, bm, D, G, rfl, h⟩ := h
  obtain ⟨m, hm1, hm2⟩ := max_nat draw
  have hmax : ∀ (ts : Array TypeId) (t : TypeId) (wx : World), (Builtin.max_ ts t #[.int .i64 draw, .int .i64 0]).run Tryd.prog wx = .ok (.int .i64 (m : Int)) wx := fun ts t wx => by
    rw [run_max_int2, ← hm1]
    congr 2
    split <;> omega
  have c2 : w.cell? ⟨bd, 2, none⟩ = some (.map (some bm)) := h.blk.cell 2
  have hM := h.map
  have hof := h.of
  have hrise := h.rise
  have hcl := crashL_all draw hof
  go_enter Tryd.func15, Tryd.ntmps15
  go_wp2_with (first
    | (at_range; refine wpList_range_own _ rfl _ 53 rfl 9 68 keyS Tryd.underlying53 _ bm d.L.length D rfl hM ?_; intro w3 hrg0 hg0 hs0))
  go_frame
  have x3 : Ext w w3 := Mod.of_grown hg0 (fun k e => by cases e)
  have h3 : DkAt (fun k => Grow S w k ∧ k ≠ w.heap.size) w3 bd bm D G { d with L := crashL draw (has D) d.L } := by
    have e : ({ d with L := crashL draw (has D) d.L } : Ds) = d := by rw [hcl]
    rw [e]
    exact (h.mono (T := fun k => Grow S w k ∧ k ≠ w.heap.size) fun k hk hS => ⟨.inl hS, by omega⟩).mod x3 (fun _ _ _ h => h)
  have hSd := h.sd
  clear hg0 hs0 hM h c2 hcl
  obtain ⟨r, hr⟩ : ∃ r, r = w.heap.size := ⟨_, rfl⟩
  rw [← hr] at hrg0 h3 ⊢
  have m3 : Mod S w w3 := x3.mono fun _ _ h => h.elim
  have hr2 : w.heap.size ≤ r := by omega
  clear hr x3
  go_loopw [] (fun wr => ∃ left cnt G', wr.ranges Tryd.prog 9 ptrElem bm r d.L.length D left cnt ∧ DkAt (fun k => Grow S w k ∧ k ≠ r) wr bd bm D G' { d with L := crashL draw left d.L } ∧ Mod S w wr) (fun wr => wr.rangeLeft bm r)
  case atStart => exact ⟨_, _, G, hrg0, h3, m3⟩
  case round =>
    clear hrg0 h3 m3
    obtain ⟨left, cnt, G', hrg, hd, hm⟩ := hrel
    have hof' : FilesOf D d.L G' := by
      have := hd.of
      exact ⟨hof.tidy, hof.has, fun x hx => this.key x (by rw [show ({ d with L := crashL draw left d.L } : Ds).L = crashL draw left d.L from rfl, nms_crashL]; exact hx), hof.size⟩
    go_wp2_with (at_next; refine wp_nextF hof' rfl _ rfl rfl hrg ?_ ?_)
    · intro hc0 hl0
      have e : ({ d with L := crashL draw left d.L } : Ds) = { d with L := d.L.map (crashF draw) } := by rw [crashL_none draw left d.L hl0]
      rw [e] at hd
      have hc := fuse_any hd (-1) (by omega)
      clear hof' hof hrg hd hc0 hl0
      go_wp2_with fail
      refine hc.mono ?_
      rintro e w4 ⟨rfl, h4, m4⟩
      clear hc
      go_wp2_with fail
      go_end0
      exact ⟨rfl, ⟨bd, bm, D, G', rfl, h4.mono fun k _ hk => hk.1⟩, hm.then_ m4 fun k _ hk => hk ▸ hSd⟩
    · intro x w4 cnt2 hx hl hrg2 hlt hm4 hs4 hen
      obtain ⟨f, hf, rfl, hfc⟩ := crashL_get (draw := draw) hx hl
      have hd4 := hd.mod hm4 (fun k _ hk e => hk.2 e)
      have y4 : Mod S w w4 := hm.trans hm4 (fun _ _ h => h) (fun k hk e => by omega)
      have hrl := hd4.rise
      have hstep := crashL_step (draw := draw) hrise hf hl
      have hfl := hd4.fl f hfc
      obtain ⟨hn1, hn2⟩ := crashN_le draw hfl.1
      have hcut := fun (wx : World) (hx : Ext w4 wx) (x : Int) (hc : x = (crashN draw f : Nat)) => by
        have := cut_any3 (hd4.mod hx (fun _ _ _ h => h)) hfc hn2
        rw [← hc] at this
        exact this
      obtain ⟨A, c, hv⟩ := (hd4.fo f hfc).shape
      rw [List.length_map] at hv
      have g0 : w4.cell? ⟨(G' f.name).1, 0, none⟩ = some (.slice A f.b.length c) := by rw [← hv]; exact (hd4.fb f hfc).cell 0
      have g1 : w4.cell? ⟨(G' f.name).1, 1, none⟩ = some (.int .i64 (f.last : Int)) := (hd4.fb f hfc).cell 1
      have hbk := hd4.blk
      have hgk := hd4.fb f hfc
      have hsk := (hd4.fs f hfc).1.1
      have hlen := len_le_sum hd4.rise hfc
      have hro := hd4.room
      have hmo := hd4.most
      obtain ⟨u, hu⟩ : ∃ u : Nat, (f.b.length : Int) - (f.last : Int) = (u : Int) := ⟨f.b.length - f.last, by omega⟩
      have hu2 : u = f.b.length - f.last := by omega
      have hcn : crashN draw f = f.last + m % (u + 1) := by rw [crashN, hm2, hu2]
      have hub : u ≤ 1073741824 := by simp only at *; omega
      have hmb : (m : Int) ≤ 9223372036854775807 := by omega
      have hmd := Nat.mod_lt m (show 0 < u + 1 by omega)
      have hw1 : IntKind.i64.wrap (u : Int) = u := by rw [IntKind.wrap_i64]; omega
      have hw2 : IntKind.i64.wrap ((u : Int) + 1) = (u : Int) + 1 := by rw [IntKind.wrap_i64]; omega
      have hnz : ¬ ((u : Int) + 1 = 0) := by omega
      have hw3 : IntKind.i64.wrap ((f.last : Int) + (m : Int) % ((u : Int) + 1)) = (f.last : Int) + (m : Int) % ((u : Int) + 1) := by rw [cmod, IntKind.wrap_i64]; simp only at *; omega
      have hlb : f.last ≤ 1073741824 := by simp only at *; omega
      replace hu2 := Lib.hid hu2
      replace hcn := Lib.hid hcn
      clear hof hof' hv hd hm1 hm2 hro hmo hlen hfl
      go_wp2_with fail
      go_quiet (fail)
      go_wp2_with fail
      obtain ⟨w5, hw5⟩ : ∃ w5, w5 = w4.drewN nq := ⟨_, rfl⟩
      have x5 : Ext w4 w5 := by rw [hw5]; exact (Mod.refl _ _).drewN nq
      have k1 : w5.cell? ⟨(G' f.name).1, 1, none⟩ = some (.int .i64 (f.last : Int)) := by rw [hw5]; exact g1
      have hrg5 : w5.ranges Tryd.prog 9 ptrElem bm r d.L.length D (fun z => left z && !z.sameKey (.string f.name)) cnt2 := by rw [hw5]; exact hrg2
      rw [← hw5]
      clear hw5
      have hcut5 := hcut w5.drew x5.drew
      go_region_held3 (fun w' => w'.cell? ⟨(G' f.name).1, 1, none⟩ = some (.int .i64 (f.last : Int))) (first | exact q6 | go_keep)
        (first | (go_at_call 37; refine (hcut5 _ (by rw [hcn.out]; exact cmod2 _ _ _ hlb hub)).mono ?_; rintro e w6 ⟨rfl, uu, h6, m6⟩; have q6 := (after_cut hrl hfc hn1 h6).1))
      obtain ⟨_, e0, e1, e2⟩ := after_cut hrl hfc hn1 h6
      have z1 := e1.frozen 1
      obtain ⟨A6, c6, rfl⟩ := e2.shape
      rw [List.length_map, List.length_take, Nat.min_eq_left hn2] at e0
      have hfin := after_last hrl hfc hn1 hn2 h6
      have m56 : Mod (fun k => k = bd ∨ k = (G' f.name).1) w5 w6 := ((Mod.refl _ w5).drew).then_ m6 (fun _ _ h => h)
      have hb5 := hbk.mod x5 (fun h => h)
      have hg5 := hgk.mod x5 (fun h => h)
      have n1 := hb5.ne_iter hrg5
      have n2 := hg5.ne_iter hrg5
      have n3 := hb5.ne_map hrg5.owns
      have n4 := hg5.ne_map hrg5.owns
      have hrg6 := ranges_mod hrg5 m56 (by rintro (e | e) <;> simp_all) (by rintro (e | e) <;> simp_all)
      obtain ⟨G2, hfin⟩ := hfin
      have hmg := setg_mod w6 (G' f.name).1 1 (.int .i64 (crashN draw f : Nat))
      have hrg7 := ranges_mod hrg6 hmg (fun e => n4 e.symm) (fun e => n2 e.symm)
      have hL : crashL draw (fun z => left z && !z.sameKey (.string f.name)) d.L = putF (crashL draw left d.L) ⟨f.name, f.b.take (crashN draw f), crashN draw f⟩ := hstep
      have hsg : ∀ k, k < w.heap.size → k = (G' f.name).1 → S k := fun k hk e => by
        subst e
        exact hsk.elim id fun h => by omega
      have m6' : Mod S w w6 := (y4.then_ x5 fun _ _ h => h.elim).then_ m56 fun k hk h => h.elim (fun e => e ▸ hSd) (hsg k hk)
      have m7 : Mod S w (w6.setCell ⟨(G' f.name).1, 1, none⟩ (.int .i64 (crashN draw f : Nat))) := m6'.then_ hmg (hsg)
      have hsz6 : w5.heap.size ≤ w6.heap.size := m56.size
      have hsz4 : w4.heap.size ≤ w5.heap.size := x5.size
      have hszw := y4.size
      have hrlt := hrg2.lt
      have hml := hrg.left_eq
      have hfin2 : DkAt (fun k => Grow S w k ∧ k ≠ r) (w6.setCell ⟨(G' f.name).1, 1, none⟩ (.int .i64 (crashN draw f : Nat))) bd bm D G2 { d with L := crashL draw (fun z => left z && !z.sameKey (.string f.name)) d.L } := by
        rw [hL]
        refine hfin.mono fun k _ hk => ?_
        rcases hk with (hk | hk) | hk
        · exact hk
        · have hk' : w5.heap.size ≤ k := hk
          exact ⟨.inr (by omega), by omega⟩
        · exact ⟨.inr (by omega), by omega⟩
      clear hfin hL hstep h6 m56 hb5 hg5 n1 n2 n3 n4 hrg6 hbk hgk hcut hcut5 hsk hd4 hrg2 hrg5 hsg e1 e2 q6
      generalize crashN draw f = cn at *
      generalize (G' f.name).1 = g at *
      go_wp2_with fail
      exact ⟨⟨_, cnt2, G2, hrg7, hfin2, m7⟩, by rw [hrg7.left_eq, hml]; exact hlt⟩
end Go.Proofs.YtblfhonfjljndaaDoor
namespace Go.Proofs.YtblfhonfjljndaaDoor
open Go.RowKit Go.Maps Go.WideMaps
set_option maxRecDepth 100000

/-- The Disk's blocks are B's and later ones, and they are there. -/
def In (B : Nat) (w : World) (S : Nat → Prop) : Prop := ∀ k, S k → B ≤ k ∧ k < w.heap.size
theorem law_of {P : Program} {f : FuncId} {args : Array Value} {S : Nat → Prop} {w : World} {B : Nat} {v : Value} {d : Ds} {E : Ending → Prop} (hin : In B w S) (hB : B ≤ w.heap.size) (h : Calls P f args w fun e w' => E e ∧ Dk (Grow S w) w' v d ∧ Mod S w w') :
    Calls P f args w fun e w' => E e ∧ ∃ S', Dk S' w' v d ∧ In B w' S' ∧ (∀ k, S' k → S k ∨ w.heap.size ≤ k) ∧ Mod S w w' := by
  refine h.mono fun e w' ⟨h1, h2, h3⟩ => ⟨h1, _, h2.cut, fun k hk => ⟨?_, hk.2⟩, fun k hk => hk.1, h3⟩
  rcases hk.1 with hk | hk
  · exact (hin k hk).1
  · omega
theorem In.ext {B : Nat} {w w' : World} {S : Nat → Prop} (h : In B w S) (hx : w.heap.size ≤ w'.heap.size) : In B w' S := fun k hk => ⟨(h k hk).1, Nat.lt_of_lt_of_le (h k hk).2 hx⟩
theorem lit_row (w : World) (l : List UInt8) (fr : Nat × Nat) (hl : l.length ≤ 1000) : Rw ((w.alloc (.cells (l.map bv).toArray 5 fr)).alloc (.cells #[.slice (some ⟨w.heap.size, 0, none⟩) l.length l.length] 32)) (fun k => w.heap.size ≤ k) (.slice (some ⟨w.heap.size + 1, 0, none⟩) 1 1) [l] := by
  have := Rw.one 32 (Bs.text w 5 l fr (by simp only [maxLen]; omega))
  rw [show (w.alloc (.cells (l.map bv).toArray 5 fr)).heap.size = w.heap.size + 1 by simp] at this
  exact this.mono (fun k _ h => by rcases h with h | h <;> omega)
theorem new_law {w : World} (room : Int) (h0 : 0 ≤ room) (h1 : room ≤ 1073741824) :
    Calls Tryd.prog 6 #[.int .i64 room] w fun e w' => ∃ bd, e = .returned (.tuple #[pv bd, ev 0]) ∧ ∃ S, Dk S w' (pv bd) (newD room) ∧ In w.heap.size w' S ∧ Ext w w' :=
  (new_any room h0 h1).mono fun e w' ⟨bd, h1, h2, _, h4⟩ => ⟨bd, h1, _, h2.cut, fun _ hk => hk, h4⟩
theorem not_in {B : Nat} {w w' : World} {S : Nat → Prop} (h : In B w S) (hx : w.heap.size ≤ w'.heap.size) (k : Nat) (hk : w'.heap.size ≤ k) : ¬ S k := fun hs => by have := (h k hs).2; omega
theorem Mod.in_ext {S : Nat → Prop} {w0 w w' : World} (hx : Ext w0 w) (hm : Mod S w w') (hin : In w0.heap.size w S) : Ext w0 w' := hx.trans hm (fun _ _ h => h) fun k hk h => by have := (hin k h).1; omega
end Go.Proofs.YtblfhonfjljndaaDoor
namespace Go.Proofs.YtblfhonfjljndaaDoor
open Go.RowKit Go.Maps Go.WideMaps
set_option maxRecDepth 100000

/-- What has been laid under a fuse of n. -/
def fs (n : Nat) (P : Tx) (m : Nat) : Ds := ⟨1048576, if m = 0 then [] else [⟨[102], (P.take m).flatten, 0⟩], true, n - m⟩
theorem flat_le (P : Tx) (m : Nat) : (P.take m).flatten.length ≤ tot P := by
  rw [flat_len]
  exact tot_le P m
theorem fs_ok {n : Nat} {P : Tx} {i : Nat} (h : i < n) (hi : i < P.length) (ht : tot P ≤ 8000) : appendD (fs n P i) [102] [P[i]] = (fs n P (i + 1), 0) := by
  have hb : begD (fs n P i) [[102]] = 0 := by
    unfold begD fs
    rw [if_neg (by simp only; omega)]
    rfl
  have hs := tot_snoc P i hi
  have hl := tot_le P (i + 1)
  have hfl := flat_len (P.take i)
  have hf2 := flat_snoc2 P i hi
  have hd : doneD ⟨1048576, [⟨[102], (P.take (i + 1)).flatten, 0⟩], true, n - i⟩ = fs n P (i + 1) := by
    unfold doneD fs
    simp only [if_pos, Nat.add_one_ne_zero, if_false]
    rw [show n - i - 1 = n - (i + 1) by omega]
  unfold appendD
  rw [if_neg (by rw [hb]; simp), ← hd, hf2]
  by_cases h0 : i = 0
  · subst h0
    rw [if_neg (by simp only [fs, sumB, tot, List.map_cons, List.map_nil, List.sum_cons, List.sum_nil, if_pos] at *; omega)]
    simp only [fs, if_pos, getF, List.find?_nil, putF, List.length_nil]
    rw [if_neg (by omega)]
    simp
  · have e : (fs n P i).L = [⟨[102], (P.take i).flatten, 0⟩] := by unfold fs; rw [if_neg h0]
    rw [if_neg (by rw [e]; simp only [sumB, tot, fs, List.map_cons, List.map_nil, List.sum_cons, List.sum_nil] at *; omega), e]
    simp only [getF, List.find?_cons, beq_self_eq_true, putF, if_pos]
    simp [fs]
theorem fs_dead {n : Nat} {P : Tx} {x : List UInt8} : appendD (fs n P n) [102] [x] = (fs n P n, 9) := by
  have hb : begD (fs n P n) [[102]] = 9 := by
    unfold begD fs
    rw [if_pos ⟨rfl, by simp⟩]
  unfold appendD
  rw [if_pos (by rw [hb]; simp), hb]
def noneT : List UInt8 := [110, 111, 110, 101]
theorem fs_remove {n : Nat} {P : Tx} {m : Nat} (hm : m ≤ n) : eachD removeD (fs n P m) [noneT] = (fs n P m, if m = n then 9 else 7) := by
  have hg : getF (fs n P m).L noneT = none := by
    unfold fs
    by_cases h0 : m = 0
    · rw [if_pos h0]; rfl
    · rw [if_neg h0]; rfl
  have hr : removeD (fs n P m) noneT = (fs n P m, if m = n then 9 else 7) := by
    by_cases h : m = n
    · subst h
      have hb : begD (fs m P m) [noneT] = 9 := by unfold begD fs; rw [if_pos ⟨rfl, by simp⟩]
      rw [removeD, onF_err _ (by rw [hb]; simp), hb, if_pos rfl]
    · have hb : begD (fs n P m) [noneT] = 0 := by
        unfold begD fs
        rw [if_neg (by simp only; omega)]
        rfl
      rw [removeD, onF_none _ hb hg, if_neg h]
  rw [eachD_err (by rw [hr]; simp only; split <;> simp), hr]
theorem fs_last {n : Nat} {P : Tx} {m : Nat} (ht : tot P ≤ 8000) : (appendD (crashD 0 (fs n P m)) [122] [[]]).2 = 0 := by
  have hfl := flat_le P m
  have hb : begD (crashD 0 (fs n P m)) [[122]] = 0 := by
    unfold begD crashD
    rw [if_neg (by simp)]
    rfl
  unfold appendD
  rw [if_neg (by rw [hb]; simp)]
  unfold crashD fs
  by_cases h0 : m = 0
  · simp only [if_pos h0, List.map_nil]
    rfl
  · simp only [if_neg h0, List.map_cons, List.map_nil]
    have e : crashF 0 ⟨[102], (P.take m).flatten, 0⟩ = ⟨[102], [], 0⟩ := by
      unfold crashF crashN
      simp
    rw [e]
    rfl
end Go.Proofs.YtblfhonfjljndaaDoor
