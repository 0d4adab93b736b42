/- entry: what fits in memory; the document's Is of any entry; an entry that came in. -/
import Derived.Test.YtlaaicdofompkaaEntL
import Derived.Test.YtlaaicdofompkaaRecIn
import Derived.Test.YtlaaicdofompkaaFrame
namespace Go.Proofs.Ytlaaicdofompkaa
open Go.RowKit Go.WideShapes Go.ChangeShapes Go.Deep
set_option maxRecDepth 100000

/-- What lies within reach. -/
structure EFits (e : Ent) : Prop where
  dn : Fits e.dn
  len : e.ats.length * 40 ≤ 140737488351232
  els : ∀ a ∈ e.ats, a.typ.length ≤ 140737488351232 ∧ a.vals.length * 16 ≤ 140737488351232 ∧ ∀ v ∈ a.vals, v.length ≤ 140737488351232
set_option maxHeartbeats 8000000 in
theorem reis_fits {w : World} {S : Nat → Prop} {vd va : Value} {e : Ent} (hd : As w S vd e.dn) (ha : Ats w va e.ats) (hw : EFits e) :
    Calls Try.prog 10 #[.agg #[vd, va]] w fun e' w' => e' = .returned (.bool (decide (isE e))) ∧ Ext w w' := by
  have hge := hw.len
  have hdn := fun {wx : World} (x : Ext w wx) => ris_any (hd.ext x) hw.dn
  have hax := fun {wx : World} (x : Ext w wx) => (ha.ext x).open_
  obtain ⟨A, c, rfl, -⟩ := ha.open_
  obtain ⟨A0, c0, rfl, -, -, -, -⟩ := hd.open_ avc_len
  obtain ⟨R, hR⟩ : ∃ R, R = decide (isE e) := ⟨_, rfl⟩
  rw [← hR]
  have B0 : Blk (w.alloc (.cells #[.slice A0 e.dn.length c0, .slice A e.ats.length c] 25)) w.heap.size 25 #[.slice A0 e.dn.length c0, .slice A e.ats.length c] := Blk.new w _ _
  have x0 : Ext w (w.alloc (.cells #[.slice A0 e.dn.length c0, .slice A e.ats.length c] 25)) := (Mod.refl _ w).alloc _
  have hc1 := hdn x0
  clear hd ha hdn
  by_cases hn : isName e.dn
  case neg =>
    rw [decide_eq_false hn] at hc1
    have hR2 := Lib.hid (show R = false from hR.trans (decide_eq_false (fun h => hn h.1)))
    clear hR hn
    go_enter Try.func10, Try.ntmps10
    go_wp2_with fail
    refine hc1.mono ?_
    rintro e' w1 ⟨rfl, rfl⟩
    go_wp2_with fail
    go_ret
    exact ⟨by rw [hR2.out]; rfl, x0⟩
  rw [decide_eq_true hn] at hc1
  obtain ⟨q, hq⟩ : ∃ q, q = e.ats.length := ⟨_, rfl⟩
  by_cases h16 : 16 < q
  · have hb : decide ((16 : Int) < (q : Int)) = true := dtrue (by omega)
    have hR2 := Lib.hid (show R = false from hR.trans (decide_eq_false (fun h => by have := h.2.1; omega)))
    rw [← hq] at hc1 B0 x0 ⊢
    clear hR hn hq
    go_enter Try.func10, Try.ntmps10
    go_wp2_with fail
    refine hc1.mono ?_
    rintro e' w1 ⟨rfl, rfl⟩
    have b1 : _ = some (Value.slice A q c) := B0.cell 1
    go_wp2_with fail
    go_ret
    exact ⟨by rw [hR2.out]; rfl, x0⟩
  have hb : decide ((16 : Int) < (q : Int)) = false := dfalse (by omega)
  have hR2 : Hid (R = decide (∀ a ∈ e.ats, isAt a)) := Lib.hid (by rw [hR, decide_eq_decide]; exact ⟨fun h => h.2.2, fun h => ⟨hn, by omega, h⟩⟩)
  rw [← hq] at hc1 B0 x0 ⊢
  replace hq := Lib.hid hq
  clear hR hn
  go_enter Try.func10, Try.ntmps10
  go_wp2_with fail
  refine hc1.mono ?_
  rintro e' w1 ⟨rfl, rfl⟩
  have B1 := B0
  have b1 : _ = some (Value.slice A q c) := B1.cell 1
  have y1 := x0
  clear hc1 B0
  go_wp2_with fail
  go_loopw [3] (fun i wr => ∃ k : Nat, k ≤ q ∧ i = .int .i64 k ∧ Hid (∀ a ∈ e.ats.take k, isAt a) ∧ Ext w wr ∧ Blk wr w.heap.size 25 #[.slice A0 e.dn.length c0, .slice A q c]) (fun i _ => q - (intOf i).toNat)
  case atStart => exact ⟨0, Nat.zero_le _, rfl, Lib.hid (by simp), y1, B1⟩
  case round =>
    clear B1 b1
    obtain ⟨k, hk, rfl, hs, hx, B⟩ := hrel
    have bq : wr.cell? ⟨w.heap.size, 1, none⟩ = some (.slice A q c) := B.cell 1
    by_cases hlt : k < q
    case neg =>
      have hbl : decide ((k : Int) < (q : Int)) = false := dfalse (by omega)
      have hR3 : Hid (R = true) := Lib.hid (by
        rw [hR2.out]
        have h := hs.out
        rw [List.take_of_length_le (by have := hq.out; omega)] at h
        exact decide_eq_true h)
      go_wp2_with fail
      go_ret
      exact ⟨by rw [hR3.out]; rfl, hx⟩
    have hbl : decide ((k : Int) < (q : Int)) = true := dtrue (by omega)
    obtain ⟨A', c', hv, hat⟩ := hax hx
    have hqq := hq.out
    obtain ⟨ad, y, hA, c0', c1', hy⟩ := hat k (by omega)
    injection hv with hv1 hv2 hv3
    subst hv1
    subst hv3
    subst hA
    clear hv2
    have hm : e.ats[k]'(by omega) ∈ e.ats := List.getElem_mem _
    have hwm := hw.els _ hm
    have hno : ¬ isAt (e.ats[k]'(by omega)) → R = false := fun h => by rw [hR2.out]; exact decide_eq_false (fun g => h (g _ hm))
    have hsn : isAt (e.ats[k]'(by omega)) → ∀ a ∈ e.ats.take (k + 1), isAt a := fun hi a ha => by
      rw [List.take_succ_eq_append_getElem (by omega)] at ha
      rcases List.mem_append.1 ha with ha | ha
      · exact hs.out a ha
      · rw [List.mem_singleton.1 ha]; exact hi
    generalize e.ats[k]'(by omega) = a at *
    have hi0 : (0 : Int) ≤ (k : Int) := by omega
    have hi1 : (k : Int) < (q : Int) := by omega
    obtain ⟨Ay, cy, rfl, -, -, hy3, hy4⟩ := hy.open_
    have hwv := hwm.2.1
    have hvm := hwm.2.2
    have htp := fun wx => rtype_any (w := wx) a.typ (by have := hwm.1; omega)
    have hat' : isAt a ↔ (isTyp a.typ ∧ 1 ≤ a.vals.length ∧ a.vals.length ≤ 16 ∧ ∀ v ∈ a.vals, v.length ≤ 256) := Iff.rfl
    obtain ⟨m, hm⟩ : ∃ m, m = a.vals.length := ⟨_, rfl⟩
    rw [← hm] at hy hat' c1'
    have hcv : ∀ {wx : World} (j : Nat) (hj : j < a.vals.length), Ext wr wx → ∃ ad, Ay = some ad ∧ wx.cell? (ad.add j) = some (sv a.vals[j]) := fun j hj x => by
      obtain ⟨A2, c2, e1, _, _, _, h5⟩ := (Sl.ext hy x).open_
      injection e1 with e1 _ _
      subst e1
      obtain ⟨ad2, e2, _, h6⟩ := h5.at_ hj
      exact ⟨ad2, e2, h6⟩
    have y4 := hx.alloc (.cells #[sv a.typ, .slice Ay m cy] 46)
    have z4 : Ext wr (wr.alloc (.cells #[sv a.typ, .slice Ay m cy] 46)) := (Mod.refl _ wr).alloc _
    replace hm := Lib.hid hm
    have hwt := hwm.1
    clear hat hy3 hy4 hwv hwm hax hqq hR2
    by_cases ht : isTyp a.typ
    case neg =>
      rw [decide_eq_false ht] at htp
      have hR3 := Lib.hid (hno (fun h => ht (hat'.1 h).1))
      clear hno hsn hat' ht hcv
      go_wp2_with fail
      refine (htp _).mono ?_
      rintro e' w2 ⟨rfl, rfl⟩
      go_wp2_with fail
      go_ret
      exact ⟨by rw [hR3.out]; rfl, y4⟩
    rw [decide_eq_true ht] at htp
    by_cases hm0 : m = 0
    · have hR3 := Lib.hid (hno (fun h => by have := (hat'.1 h).2.1; omega))
      subst hm0
      clear hno hsn hat' ht hcv
      go_wp2_with fail
      refine (htp _).mono ?_
      rintro e' w2 ⟨rfl, rfl⟩
      go_wp2_with fail
      go_ret
      exact ⟨by rw [hR3.out]; rfl, y4⟩
    have hb5 : decide ((m : Int) < 1) = false := dfalse (by omega)
    by_cases hm1 : 16 < m
    · have hb6 : decide ((16 : Int) < (m : Int)) = true := dtrue (by omega)
      have hR3 := Lib.hid (hno (fun h => by have := (hat'.1 h).2.2.1; omega))
      clear hno hsn hat' ht hcv
      go_wp2_with fail
      refine (htp _).mono ?_
      rintro e' w2 ⟨rfl, rfl⟩
      go_wp2_with fail
      go_ret
      exact ⟨by rw [hR3.out]; rfl, y4⟩
    have hb6 : decide ((16 : Int) < (m : Int)) = false := dfalse (by omega)
    have hvno : Hid (∀ v ∈ a.vals, ¬ v.length ≤ 256 → R = false) := Lib.hid fun v hv h => hno (fun g => h ((hat'.1 g).2.2.2 v hv))
    have hvyes : Hid ((∀ v ∈ a.vals, v.length ≤ 256) → ∀ a ∈ e.ats.take (k + 1), isAt a) := Lib.hid fun h => hsn (hat'.2 ⟨ht, by omega, by omega, h⟩)
    clear hno hsn hat' ht hs
    go_wp2_with fail
    refine (htp _).mono ?_
    rintro e' w2 ⟨rfl, rfl⟩
    clear htp
    go_wp2_with fail
    go_loopw [5] (fun i wx => ∃ j : Nat, j ≤ m ∧ i = .int .i64 j ∧ Hid (∀ v ∈ a.vals.take j, v.length ≤ 256) ∧ Ext wr wx ∧ Blk wx wr.heap.size 46 #[sv a.typ, .slice Ay m cy]) (fun i _ => m - (intOf i).toNat)
    case atStart => exact ⟨0, Nat.zero_le _, rfl, Lib.hid (by simp), z4, Blk.new wr _ _⟩
    case round =>
      clear z4 y4 bq
      obtain ⟨j, hj, rfl, hs2, hx2, B4⟩ := hrel
      have bq4 : _ = some (Value.slice Ay m cy) := B4.cell 1
      have hmm := hm.out
      by_cases hlt2 : j < m
      case neg =>
        have hbl2 : decide ((j : Int) < (m : Int)) = false := dfalse (by omega)
        have hn := hs2.out
        rw [List.take_of_length_le (by omega)] at hn
        have hnx := Lib.hid (hvyes.out hn)
        clear hmm hn hcv
        go_wp2_with fail
        exact ⟨⟨k + 1, by omega, by go_num, hnx, ext_trans hx hx2, B.mod hx2 (fun h => h)⟩, by simp [intOf] <;> omega⟩
      have hbl2 : decide ((j : Int) < (m : Int)) = true := dtrue (by omega)
      obtain ⟨ad2, hA2, cv⟩ := hcv j (by omega) hx2
      subst hA2
      have hmem : a.vals[j]'(by omega) ∈ a.vals := List.getElem_mem _
      have hn1 := hvno.out _ hmem
      have hn2 := hvm _ hmem
      have hsn2 : (a.vals[j]'(by omega)).length ≤ 256 → ∀ v ∈ a.vals.take (j + 1), v.length ≤ 256 := fun hi v hv => by
        rw [List.take_succ_eq_append_getElem (by omega)] at hv
        rcases List.mem_append.1 hv with hv | hv
        · exact hs2.out v hv
        · rw [List.mem_singleton.1 hv]; exact hi
      generalize a.vals[j]'(by omega) = v at *
      have hzv := sv_size' v
      have hj0 : (0 : Int) ≤ (j : Int) := by omega
      have hj1 : (j : Int) < (m : Int) := by omega
      clear hmm
      by_cases hv : v.length ≤ 256
      · have hb7 : decide ((256 : Int) < (v.length : Int)) = false := dfalse (by omega)
        have hs3 := Lib.hid (hsn2 hv)
        clear hsn2 hn1
        go_wp2_with fail
        exact ⟨⟨j + 1, by omega, by go_num, hs3, hx2, B4⟩, by simp [intOf] <;> omega⟩
      · have hb7 : decide ((256 : Int) < (v.length : Int)) = true := dtrue (by omega)
        have hR3 := Lib.hid (hn1 hv)
        clear hsn2 hn1
        go_wp2_with fail
        go_ret
        exact ⟨by rw [hR3.out]; rfl, ext_trans hx hx2⟩

section
variable {H : Type} {enc : TypeId × Value → H} {W : World} {base : Nat} {spare : Nat → Bool} {held : Bool} {v : Value} {d : DataW H} {p : List MemPlace}
theorem light_all {P : Program} {t : TypeId} (h : Light P t d) : (DataW.weightsEach P [t] [d]).all (· ≤ reachBytes) = true := by
  rw [List.all_eq_true]
  intro q hq
  have : q ∈ d.weights P t := by simpa [DataW.weightsEach] using hq
  have := h q this
  exact decide_eq_true (by simpa [reachBytes] using this)
theorem strs_light {fuel : Nat} {x : Value} (h : DataW.trod enc Try.prog W base spare held fuel 34 [x] = some (d, p)) (hl : Light Try.prog 34 d) :
    ∃ L, Ss W (fun _ => True) x L ∧ L.length * 16 ≤ 140737488351232 ∧ ∀ l ∈ L, l.length ≤ 140737488351232 := by
  have hsl := slice_val Try.underlying34 h
  have hx1 : x.cells.toList = [x] := by obtain ⟨a, b, c, e⟩ := hsl; rw [e]; rfl
  obtain ⟨L, h1, h2, h3⟩ := strs_in_sized (ts := [34]) (ds := [d]) (j := 0) (v := x) (d := d) (p := p) Try.underlying34 Try.underlying9 (by kernel_rfl) (by kernel_rfl) hsl ⟨fuel, by rw [hx1]; exact h⟩ (light_all hl) rfl rfl
  exact ⟨L, h1, h3, h2⟩
theorem avas_in (h : DataW.Trod enc Try.prog W base spare held 22 v d p) (hv : ∃ a len cap, v = .slice a len cap) (hl : Light Try.prog 22 d) : ∃ L, As W (fun _ => True) v L ∧ Fits L := by
  obtain ⟨L, h1, h2, h3⟩ := recs_in avc avc_len (fun a => a.1.length ≤ 140737488351232 ∧ a.2.length ≤ 140737488351232) Try.underlying22 (by kernel_rfl) (bts := 32) (by kernel_rfl)
    (ava_each Try.underlying49 (by kernel_rfl) rfl rfl (by kernel_rfl) (by kernel_rfl) Try.underlying9 Try.underlying9) hv h hl
  exact ⟨L, h1, h2, h3⟩
theorem avas_cell {v1 : Value} {z : DataW H × List MemPlace} {n : Nat} (h : DataW.trod enc Try.prog W base spare held n 22 [v1] = some z) (hl : Light Try.prog 22 z.1) : ∃ L, As W (fun _ => True) v1 L ∧ Fits L := by
  obtain ⟨a, l, c, rfl⟩ := slice_val Try.underlying22 h
  exact avas_in (v := .slice a l c) (d := z.1) (p := z.2) ⟨n, by simpa [Value.cells] using h⟩ ⟨_, _, _, rfl⟩ hl
abbrev AtC : Type := Att × Value
abbrev atcc (x : AtC) : List Value := [sv x.1.typ, x.2]
theorem atcc_len (x : AtC) : (atcc x).length = 2 := rfl
instance : Inhabited AtC := ⟨(⟨[], []⟩, .nilFunc)⟩
theorem attr_each (cs : List Value) (x : DataW H × List MemPlace) (n : Nat) (h : DataW.trod enc Try.prog W base spare held n 46 cs = some x) (hl : Light Try.prog 46 x.1) :
    ∃ c : AtC, cs = atcc c ∧ (Ss W All c.2 c.1.vals ∧ c.1.typ.length ≤ 140737488351232 ∧ c.1.vals.length * 16 ≤ 140737488351232 ∧ ∀ v ∈ c.1.vals, v.length ≤ 140737488351232) := by
  obtain ⟨xs, m, _, rfl, hlen, hxl, hfi⟩ := DataW.trod_struct Try.underlying46 h
  have hc : Try.prog.cellsOf 46 = 2 := by kernel_rfl
  match xs, hxl, cs, hlen.trans hc with
  | [y0, y1], _, [v0, v1], _ =>
    have k1 : Try.prog.cellsOf 9 = 1 := by kernel_rfl
    have k2 : Try.prog.cellsOf 34 = 1 := by kernel_rfl
    have g0 : DataW.trod enc Try.prog W base spare held m 9 (([v0, v1].drop 0).take (Try.prog.cellsOf 9)) = some y0 := hfi 0 _ rfl
    rw [k1] at g0
    replace g0 : DataW.trod enc Try.prog W base spare held m 9 [v0] = some y0 := g0
    have g1 : DataW.trod enc Try.prog W base spare held m 34 (([v0, v1].drop 1).take (Try.prog.cellsOf 34)) = some y1 := hfi 1 _ rfl
    rw [k2] at g1
    replace g1 : DataW.trod enc Try.prog W base spare held m 34 [v1] = some y1 := g1
    obtain ⟨x0, q0, z0, _⟩ := DataW.trod_string Try.underlying9 g0
    have l0 := Light.part (j := 0) Try.underlying46 hl rfl rfl
    have l1 := Light.part (j := 1) Try.underlying46 hl rfl rfl
    obtain ⟨L1, a1, f1, f2⟩ := strs_light g1 l1
    rw [z0] at l0
    injection q0 with q0
    exact ⟨(⟨x0.data.toList, L1⟩, v1), by rw [q0, sv_of x0], a1, l0.str, f1, f2⟩
theorem attrs_in (h : DataW.Trod enc Try.prog W base spare held 23 v d p) (hv : ∃ a len cap, v = .slice a len cap) (hl : Light Try.prog 23 d) :
    ∃ L : List Att, Ats W v L ∧ L.length * 40 ≤ 140737488351232 ∧ ∀ a ∈ L, a.typ.length ≤ 140737488351232 ∧ a.vals.length * 16 ≤ 140737488351232 ∧ ∀ v ∈ a.vals, v.length ≤ 140737488351232 := by
  obtain ⟨C, h1, h2, h3⟩ := recs_in atcc atcc_len (fun c => Ss W All c.2 c.1.vals ∧ c.1.typ.length ≤ 140737488351232 ∧ c.1.vals.length * 16 ≤ 140737488351232 ∧ ∀ v ∈ c.1.vals, v.length ≤ 140737488351232) Try.underlying23 (by kernel_rfl) (bts := 40) (by kernel_rfl) attr_each hv h hl
  refine ⟨C.map (·.1), ⟨C.map fun c => (c.1.typ, c.2), ?_, by simp, fun k r a hr ha => ?_⟩, by simpa using h3, fun a ha => ?_⟩
  · have e : (C.map fun c => ((c.1.typ, c.2) : AtV)).flatMap atc = C.flatMap atcc := by rw [List.flatMap_map]
    unfold Rc at h1 ⊢
    rw [e, List.length_map]
    exact h1
  · rw [List.getElem?_map] at hr ha
    cases hk : C[k]? with
    | none => rw [hk] at hr; cases hr
    | some c =>
      rw [hk] at hr ha
      injection hr with hr
      injection ha with ha
      subst hr
      subst ha
      exact ⟨rfl, (h2 c (List.mem_of_getElem? hk)).1⟩
  · obtain ⟨c, hc, rfl⟩ := List.mem_map.1 ha
    exact (h2 c hc).2
theorem attrs_cell {v1 : Value} {z : DataW H × List MemPlace} {n : Nat} (h : DataW.trod enc Try.prog W base spare held n 23 [v1] = some z) (hl : Light Try.prog 23 z.1) : ∃ L : List Att, Ats W v1 L ∧ L.length * 40 ≤ 140737488351232 ∧ ∀ a ∈ L, a.typ.length ≤ 140737488351232 ∧ a.vals.length * 16 ≤ 140737488351232 ∧ ∀ v ∈ a.vals, v.length ≤ 140737488351232 := by
  obtain ⟨a, l, c, rfl⟩ := slice_val Try.underlying23 h
  exact attrs_in (v := .slice a l c) (d := z.1) (p := z.2) ⟨n, by simpa [Value.cells] using h⟩ ⟨_, _, _, rfl⟩ hl
theorem entry_each (cs : List Value) (x : DataW H × List MemPlace) (n : Nat) (h : DataW.trod enc Try.prog W base spare held n 25 cs = some x) (hl : Light Try.prog 25 x.1) :
    ∃ (vd va : Value) (e : Ent), cs = [vd, va] ∧ As W All vd e.dn ∧ Ats W va e.ats ∧ EFits e := by
  obtain ⟨xs, m, _, rfl, hlen, hxl, hfi⟩ := DataW.trod_struct Try.underlying25 h
  have hc : Try.prog.cellsOf 25 = 2 := by kernel_rfl
  match xs, hxl, cs, hlen.trans hc with
  | [y0, y1], _, [v0, v1], _ =>
    have k1 : Try.prog.cellsOf 22 = 1 := by kernel_rfl
    have k2 : Try.prog.cellsOf 23 = 1 := by kernel_rfl
    have g0 : DataW.trod enc Try.prog W base spare held m 22 (([v0, v1].drop 0).take (Try.prog.cellsOf 22)) = some y0 := hfi 0 _ rfl
    rw [k1] at g0
    replace g0 : DataW.trod enc Try.prog W base spare held m 22 [v0] = some y0 := g0
    have g1 : DataW.trod enc Try.prog W base spare held m 23 (([v0, v1].drop 1).take (Try.prog.cellsOf 23)) = some y1 := hfi 1 _ rfl
    rw [k2] at g1
    replace g1 : DataW.trod enc Try.prog W base spare held m 23 [v1] = some y1 := g1
    have l0 := Light.part (j := 0) Try.underlying25 hl rfl rfl
    have l1 := Light.part (j := 1) Try.underlying25 hl rfl rfl
    obtain ⟨D, a1, f1⟩ := avas_cell g0 l0
    obtain ⟨L, a2, f2, f3⟩ := attrs_cell g1 l1
    exact ⟨v0, v1, ⟨D, L⟩, rfl, a1, a2, f1, f2, f3⟩
theorem entry_in {r : Reach} {b0 : Nat} (h : DataW.Trod enc Try.prog W base spare held 25 v d p) (hv : Value.okWide Try.prog W r b0 25 v) (hl : Light Try.prog 25 d) :
    ∃ (vd va : Value) (e : Ent), v = .agg #[vd, va] ∧ As W All vd e.dn ∧ Ats W va e.ats ∧ EFits e := by
  obtain ⟨cs, rfl, hsz⟩ := okWide_struct Try.underlying25 hv
  obtain ⟨fuel, hf⟩ := h
  obtain ⟨vd, va, e, h1, h2⟩ := entry_each _ _ _ hf hl
  have : cs = #[vd, va] := by
    apply Array.toList_inj.1
    simpa [Value.cells] using h1
  exact ⟨vd, va, e, by rw [this], h2⟩
end
end Go.Proofs.Ytlaaicdofompkaa
