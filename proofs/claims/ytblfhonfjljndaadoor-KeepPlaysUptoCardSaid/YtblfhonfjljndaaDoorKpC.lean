/- keep: what Save makes of a Disk, without a walk. -/
import Derived.Test.YtblfhonfjljndaaDoorKpB
import Derived.Test.YtblfhonfjljndaaDoorDkY
namespace Go.Proofs.YtblfhonfjljndaaDoor
open Go.RowKit Go.Maps Go.WideMaps
set_option maxRecDepth 100000

theorem one_frec {p : List UInt8} (h : p.length ≤ 1048576) : oneR (frec p) = (p, 0) := by
  have := dec_frec p [] h
  rw [List.append_nil] at this
  unfold oneR
  rw [this, if_neg (by simp), if_neg (by rw [frec_len]; simp)]
theorem ne_aside (x : List UInt8) : x ++ [126] ≠ x := fun h => by
  have := congrArg List.length h
  simp at this
theorem bad_ok {x : List UInt8} (h1 : 1 ≤ x.length) (h2 : x.length ≤ 64) : badN x = false := by unfold badN; exact decide_eq_false (by omega)
theorem beg_ok {d : Ds} {L : Tx} (hf : d.fu = true → 1 ≤ d.left) (hL : L.any badN = false) : begD d L = 0 := by
  unfold begD
  rw [if_neg (fun h => by have := hf h.1; omega), hL]
  rfl
theorem beg_dead {d : Ds} {L : Tx} (h1 : d.fu = true) (h2 : d.left = 0) : begD d L = 9 := by unfold begD; rw [if_pos ⟨h1, h2⟩]
def sub (fu : Bool) (l k : Nat) : Nat := if fu then l - k else l
theorem done_eq (r : Nat) (L : Fis) (fu : Bool) (l : Nat) : doneD ⟨r, L, fu, l⟩ = ⟨r, L, fu, sub fu l 1⟩ := rfl
theorem sub_sub (fu : Bool) (l i j : Nat) : sub fu (sub fu l i) j = sub fu l (i + j) := by
  cases fu with
  | true => simp [sub]; omega
  | false => rfl
theorem put_aside {L : Fis} {x : List UInt8} {b : List UInt8} (hr : Rise L) (ht : getF L (x ++ [126]) = none) :
    putF (delF (delF (putF L ⟨x ++ [126], b, b.length⟩) x) (x ++ [126])) ⟨x, b, b.length⟩ = putF L ⟨x, b, b.length⟩ := by
  have h1 := rise_putF (f := ⟨x ++ [126], b, b.length⟩) hr
  refine eq_of_nms (rise_putF (rise_delF (rise_delF h1 _) _)) (rise_putF hr) fun g => ?_
  rw [mem_putF (rise_delF (rise_delF h1 _) _), mem_delF, mem_delF, mem_putF hr, mem_putF hr]
  have hne : g ∈ L → g.name ≠ x ++ [126] := fun hg e => getF_none ht (List.mem_map.2 ⟨g, hg, e⟩)
  constructor
  · rintro (h | ⟨⟨⟨h | h, h2⟩, h3⟩, h4⟩)
    · exact .inl h
    · rw [h] at h3; exact absurd rfl h3
    · exact .inr ⟨h.1, h4⟩
  · rintro (h | ⟨h, h2⟩)
    · exact .inl h
    · exact .inr ⟨⟨⟨.inr ⟨h, hne h⟩, h2⟩, hne h⟩, h2⟩
section
variable {r l : Nat} {L : Fis} {fu : Bool} {x p : List UInt8}
theorem save_head {d : Ds} (hx : 1 ≤ x.length) (hx2 : x.length ≤ 60) (ht : getF d.L (x ++ [126]) = none) :
    saveD d x p = bindD (appendD d (x ++ [126]) [frec p]) fun d2 => bindD (eachD syncD d2 [x ++ [126]]) fun d3 => renameD d3 (x ++ [126]) x := by
  unfold saveD
  rw [if_neg (by omega)]
  have e : rmT d (x ++ [126]) = (d, 0) := by unfold rmT readD; rw [ht]; rfl
  rw [e, bindD_ok]
  rfl
theorem bad_one (hx : 1 ≤ x.length) (hx2 : x.length ≤ 64) : [x].any badN = false := by simp only [List.any_cons, List.any_nil, Bool.or_false]; exact bad_ok hx hx2
theorem save_app (hx2 : x.length ≤ 60) (ht : getF L (x ++ [126]) = none) (hroom : sumB L + (12 + p.length) ≤ r) (hfew : L.length < 4096) (hf : fu = true → 1 ≤ l) :
    appendD ⟨r, L, fu, l⟩ (x ++ [126]) [frec p] = (⟨r, putF L ⟨x ++ [126], frec p, 0⟩, fu, sub fu l 1⟩, 0) := by
  have hb : begD ⟨r, L, fu, l⟩ [x ++ [126]] = 0 := beg_ok hf (bad_one (by simp) (by simp; omega))
  unfold appendD
  rw [if_neg (by rw [hb]; simp), if_neg (by simp only [tot, List.map_cons, List.map_nil, List.sum_cons, List.sum_nil, frec_len]; omega)]
  simp only [ht]
  rw [if_neg (by omega), done_eq]
  simp
theorem sync_one {t b : List UInt8} {n : Nat} (hr : Rise L) (ht1 : 1 ≤ t.length) (ht2 : t.length ≤ 64) (hf : fu = true → 1 ≤ l) :
    eachD syncD ⟨r, putF L ⟨t, b, n⟩, fu, l⟩ [t] = (⟨r, putF L ⟨t, b, b.length⟩, fu, sub fu l 1⟩, 0) := by
  have hb : begD ⟨r, putF L ⟨t, b, n⟩, fu, l⟩ [t] = 0 := beg_ok hf (bad_one ht1 ht2)
  have hg : getF (putF L ⟨t, b, n⟩) t = some ⟨t, b, n⟩ := getF_put_same hr ⟨t, b, n⟩
  have e : syncD ⟨r, putF L ⟨t, b, n⟩, fu, l⟩ t = (⟨r, putF L ⟨t, b, b.length⟩, fu, sub fu l 1⟩, 0) := by
    rw [syncD, onF_some _ hb hg]
    show (doneD ⟨r, putF (putF L ⟨t, b, n⟩) ⟨t, b, b.length⟩, fu, l⟩, 0) = _
    rw [putF_put hr (f := ⟨t, b, n⟩) (g := ⟨t, b, b.length⟩) rfl, done_eq]
  rw [eachD_ok (by rw [e]), e]
  rfl
/-- All goes well. -/
theorem save_ok (hr : Rise L) (hx : 1 ≤ x.length) (hx2 : x.length ≤ 60) (ht : getF L (x ++ [126]) = none) (hroom : sumB L + (12 + p.length) ≤ r) (hfew : L.length < 4096) (hf : fu = true → 3 ≤ l) :
    saveD ⟨r, L, fu, l⟩ x p = (⟨r, putF L ⟨x, frec p, (frec p).length⟩, fu, sub fu l 3⟩, 0) := by
  have hs : ∀ k, k ≤ 2 → fu = true → 1 ≤ sub fu l k := fun k hk h => by have := hf h; unfold sub; rw [if_pos h]; omega
  rw [save_head hx hx2 ht, save_app hx2 ht hroom hfew (fun h => by have := hf h; omega), bindD_ok, sync_one hr (by simp) (by simp; omega) (hs 1 (by omega)), bindD_ok, sub_sub]
  have hb : begD ⟨r, putF L ⟨x ++ [126], frec p, (frec p).length⟩, fu, sub fu l (1 + 1)⟩ [x ++ [126], x] = 0 :=
    beg_ok (hs 2 (by omega)) (by simp only [List.any_cons, List.any_nil, Bool.or_false, bad_ok (x := x ++ [126]) (by simp) (by simp; omega), bad_ok hx (by omega)])
  have hg : getF (putF L ⟨x ++ [126], frec p, (frec p).length⟩) (x ++ [126]) = some ⟨x ++ [126], frec p, (frec p).length⟩ := getF_put_same hr ⟨x ++ [126], frec p, (frec p).length⟩
  unfold renameD
  rw [if_neg (by rw [hb]; simp)]
  simp only [hg]
  rw [if_neg (ne_aside x), put_aside hr ht, done_eq, sub_sub]
/-- The fuse burns on the way. -/
theorem save_burnt (hr : Rise L) (hx : 1 ≤ x.length) (hx2 : x.length ≤ 60) (ht : getF L (x ++ [126]) = none) (hroom : sumB L + (12 + p.length) ≤ r) (hfew : L.length < 4096) (hl : l < 3) :
    ∃ L', saveD ⟨r, L, true, l⟩ x p = (⟨r, L', true, 0⟩, 9) ∧ Rise L' ∧ getF L' x = getF L x := by
  have hgo : ∀ n, getF (putF L ⟨x ++ [126], frec p, n⟩) x = getF L x := fun n => getF_put_other hr ⟨x ++ [126], frec p, n⟩ (fun e => ne_aside x e.symm)
  rw [save_head hx hx2 ht]
  have hc : l = 0 ∨ l = 1 ∨ l = 2 := by omega
  rcases hc with rfl | rfl | rfl
  · refine ⟨L, ?_, hr, rfl⟩
    have e : appendD ⟨r, L, true, 0⟩ (x ++ [126]) [frec p] = (⟨r, L, true, 0⟩, 9) := by
      unfold appendD
      rw [if_pos (by rw [beg_dead rfl rfl]; simp), beg_dead rfl rfl]
    rw [e, bindD_err (by simp)]
  · refine ⟨_, ?_, rise_putF hr, hgo 0⟩
    rw [save_app hx2 ht hroom hfew (fun _ => by omega), bindD_ok]
    have e1 : syncD ⟨r, putF L ⟨x ++ [126], frec p, 0⟩, true, sub true 1 1⟩ (x ++ [126]) = (⟨r, putF L ⟨x ++ [126], frec p, 0⟩, true, 0⟩, 9) := by rw [syncD, onF_err _ (by rw [beg_dead rfl rfl]; simp), beg_dead rfl rfl]; rfl
    rw [eachD_err (by rw [e1]; simp), e1, bindD_err (by simp)]
  · refine ⟨_, ?_, rise_putF hr, hgo (frec p).length⟩
    rw [save_app hx2 ht hroom hfew (fun _ => by omega), bindD_ok, sync_one hr (by simp) (by simp; omega) (fun _ => by simp [sub]), bindD_ok, sub_sub]
    unfold renameD
    rw [if_pos (by rw [beg_dead rfl (by simp [sub])]; simp), beg_dead rfl (by simp [sub])]
    rfl
end
/-- A crash leaves what was synced whole. -/
theorem crash_keeps {draw : Int} {f : Fi} (h : f.last = f.b.length) : crashF draw f = f := by
  obtain ⟨a, b, n⟩ := f
  simp only at h
  subst h
  simp [crashF, crashN, Nat.mod_one]
theorem crash_all {draw : Int} {r : Nat} {L : Fis} (h : ∀ f ∈ L, f.last = f.b.length) : crashD draw ⟨r, L, false, 0⟩ = ⟨r, L, false, 0⟩ := by
  unfold crashD
  congr 1
  exact (List.map_congr_left fun f hf => crash_keeps (h f hf)).trans (List.map_id _)
theorem crash_get {draw : Int} {d : Ds} {x : List UInt8} : getF (crashD draw d).L x = (getF d.L x).map (crashF draw) := by
  unfold crashD getF
  simp only
  rw [List.find?_map]
  rfl
theorem load_saved {d : Ds} {x p : List UInt8} {n : Nat} (h : getF d.L x = some ⟨x, frec p, n⟩) (hp : p.length ≤ 1048576) : loadD d x = (p, 0) := by
  unfold loadD readD
  rw [h]
  simp only [Option.map_some, one_frec hp, if_pos]
theorem load_none {d : Ds} {x : List UInt8} (h : getF d.L x = none) : loadD d x = ([], 7) := by unfold loadD readD; rw [h]; rfl
end Go.Proofs.YtblfhonfjljndaaDoor
