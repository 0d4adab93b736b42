/- entry: text; what Decode has between its calls. -/
import Derived.Test.YtlaaicdofompkaaEntG
namespace Go.Proofs.Ytlaaicdofompkaa
open Go.RowKit
set_option maxRecDepth 100000

theorem text_any {w : World} {b : Nat} {S : Nat → Prop} {v : Value} {st : St} (h : Rd w b S v st) (hl : szO st ≤ 1000000) :
    Calls Try.prog 40 #[.pointer (some ⟨b, 0, none⟩)] w fun e w' => ∃ v', e = .returned (sv (takeB st).1) ∧ Rd w' b S v' (takeB st).2 ∧ Mod (fun k => k = b) w w' := by
  have hc := bytes_any h (by show szO st ≤ _; omega)
  go_enter Try.func40, Try.ntmps40
  go_wp2_with fail
  refine hc.mono ?_
  rintro e w1 ⟨v', v1, rfl, r1, o1, -, m1⟩
  have z1 := run_conv (P := Try.prog) Try.underlying50 Try.underlying5 Try.underlying9 o1.sl
  go_wp2_with fail
  go_ret
  exact ⟨v', rfl, r1, m1⟩
theorem ownR_ne_blk {α : Type} {f : α → List Value} {n : Nat} {w : World} {e t : TypeId} {v : Value} {L : List α} {b : Nat} {cs : Array Value} (h : OwnR f n w e v L) (hb : Blk w b t cs) (hne : e ≠ t) {k : Nat} (hk : own v k) : k ≠ b := by
  rcases h.2 with ⟨rfl, _⟩ | ⟨g, cap, cur, rfl, _, hh, _⟩
  · cases hk
  · rintro rfl
    have hg : g = k := Option.some.inj hk
    subst hg
    have hc : w.heap[g]? = some (.cells cs t (0, 0)) := hb
    rw [hh] at hc
    injection hc with hc
    injection hc with _ hc _
    exact hne hc
/-- What Decode has between its calls: the reader at b, the entry at g, and what lies in it. -/
structure Dk (w : World) (b g : Nat) (wx : World) (vr : Value) (st : St) (vd va : Value) (rs : List AtV) (D : List Av) (L : List Att) : Prop where
  r : Rd wx b (fun k => k = w.heap.size) vr st
  e : Blk wx g 25 #[vd, va]
  d : OwnA wx vd D
  a : OAt wx va rs L
  ex : Ext w wx
  lo : w.heap.size < b
  bg : b < g
  fd : Fresh (b + 1) vd
  fa : Fresh (b + 1) va
  fe : ∀ r ∈ rs, Fresh (b + 1) r.2
theorem ownR_neR {α β : Type} {f : α → List Value} {f' : β → List Value} {n n' : Nat} {w : World} {e e' : TypeId} {v v' : Value} {L : List α} {M : List β} (h : OwnR f n w e v L) (h' : OwnR f' n' w e' v' M) (hne : e ≠ e') {k : Nat} (hk : own v k) (hk' : own v' k) : False := by
  rcases h.2 with ⟨rfl, _⟩ | ⟨g, cap, cur, rfl, _, hh, _⟩
  · cases hk
  rcases h'.2 with ⟨rfl, _⟩ | ⟨g', cap', cur', rfl, _, hh', _⟩
  · cases hk'
  have e1 : g = k := Option.some.inj hk
  have e2 : g' = k := Option.some.inj hk'
  subst e1; subst e2
  rw [hh] at hh'
  injection hh' with hc
  injection hc with _ hc _
  exact hne hc
theorem own_neO {α : Type} {f : α → List Value} {n : Nat} {w : World} {e e' : TypeId} {v v' : Value} {L : List α} {ys : List Value} (h : OwnR f n w e v L) (h' : Own w e' v' ys) (hne : e' ≠ e) {k : Nat} (hk : own v k) (hk' : own v' k) : False := by
  rcases h.2 with ⟨rfl, _⟩ | ⟨g, cap, cur, rfl, _, hh, _⟩
  · cases hk
  · have : g = k := Option.some.inj hk
    subst this
    exact h'.ne_blk (t := e) hh hne hk'
theorem OAt.mod {w w' : World} {F : Nat → Prop} {v : Value} {rs : List AtV} {L : List Att} (h : OAt w v rs L) (hm : Mod F w w') (h1 : ∀ k, Go.Proofs.Ytlaaicdofompkaa.own v k → ¬ F k) (h2 : ∀ r ∈ rs, ∀ k, Go.Proofs.Ytlaaicdofompkaa.own r.2 k → ¬ F k) : OAt w' v rs L :=
  ⟨h.own.mod hm h1, h.len, fun k r a hr ha => ⟨(h.els k r a hr ha).1, (h.els k r a hr ha).2.mod hm (h2 r (List.mem_of_getElem? hr))⟩⟩
section
variable {w wx w' : World} {b g : Nat} {vr vr' vd va v' : Value} {st st' : St} {rs : List AtV} {D : List Av} {L : List Att}
theorem Dk.call (h : Dk w b g wx vr st vd va rs D L) (r : Rd w' b (fun k => k = w.heap.size) vr' st') (m : Mod (fun k => k = b) wx w') : Dk w b g w' vr' st' vd va rs D L where
  r := r
  e := h.e.mod m (fun e => by have := h.bg; omega)
  d := h.d.mod m (fun k hk e => by have := h.fd k hk; omega)
  a := h.a.mod m (fun k hk e => by have := h.fa k hk; omega) (fun r hr k hk e => by have := h.fe r hr k hk; omega)
  ex := h.ex.trans m (fun _ _ h => h) (fun k hk e => by have := h.lo; omega)
  lo := h.lo
  bg := h.bg
  fd := h.fd
  fa := h.fa
  fe := h.fe
theorem Dk.ext (h : Dk w b g wx vr st vd va rs D L) (m : Ext wx w') : Dk w b g w' vr st vd va rs D L where
  r := h.r.mod m (fun h => h) (fun _ _ _ h => h)
  e := h.e.mod m (fun h => h)
  d := h.d.mod m (fun _ _ h => h)
  a := h.a.ext m
  ex := ext_trans h.ex m
  lo := h.lo
  bg := h.bg
  fd := h.fd
  fa := h.fa
  fe := h.fe
theorem setc_mod (w : World) (g i : Nat) (u : Value) : Mod (fun k => k = g) w (w.setCell ⟨g, i, none⟩ u) := (Mod.refl (fun k => k = g) w).setCell (p := ⟨g, i, none⟩) (fun _ => rfl) u
/-- One more pair of the name: appended, and laid back. -/
theorem Dk.addD {a : Av} (h : Dk w b g wx vr st vd va rs D L) (k1 : OwnA w' v' (D ++ [a])) (k2 : Mod (own vd) wx w') (k3 : Next wx.heap.size vd v') : Dk w b g (w'.setCell ⟨g, 0, none⟩ v') vr st v' va rs (D ++ [a]) L := by
  have hb := h.r.blk.lt
  have he := h.e.mod k2 (fun hk => ownR_ne_blk h.d h.e (by decide) hk rfl)
  have f' : Fresh (b + 1) v' := k3.fresh h.fd hb
  have sm := setc_mod w' g 0 v'
  have hr := h.r.mod k2 (fun hk => by have := h.fd b hk; omega) (fun k _ hk ho => by have := h.fd k ho; have := h.lo; omega)
  have ha := h.a.mod k2 (fun k hk ho => ownR_neR h.a.own h.d (by decide) hk ho) (fun r hr k hk ho => by
    obtain ⟨i, hi, e⟩ := List.getElem_of_mem hr
    have hl := h.a.len
    exact own_neO h.d (h.a.els i r (L[i]'(by omega)) (by rw [List.getElem?_eq_getElem hi, e]) (by rw [List.getElem?_eq_getElem (by omega)])).2 (by decide) ho hk)
  have hx : Ext w w' := h.ex.trans k2 (fun _ _ h => h) (fun k hk ho => by have := h.fd k ho; have := h.lo; omega)
  exact ⟨hr.mod sm (fun e => by have := h.bg; omega) (fun k _ hk e => by have := h.lo; have := h.bg; omega), he.set_ 0 v', k1.mod sm (fun k hk e => ownR_ne_blk k1 he (by decide) hk e),
    ha.mod sm (fun k hk e => ownR_ne_blk ha.own he (by decide) hk e) (fun r hr k hk e => by
      obtain ⟨i, hi, e'⟩ := List.getElem_of_mem hr
      have hl := ha.len
      exact (ha.els i r (L[i]'(by omega)) (by rw [List.getElem?_eq_getElem hi, e']) (by rw [List.getElem?_eq_getElem (by omega)])).2.ne_blk he (by decide) (by rw [← e]; exact hk)),
    hx.trans sm (fun _ _ h => h) (fun k hk e => by have := h.lo; have := h.bg; omega), h.lo, h.bg, f', h.fa, h.fe⟩
/-- One more attribute: appended, and laid back. -/
theorem Dk.addA {r : AtV} {a : Att} (h : Dk w b g wx vr st vd va rs D L) (k1 : OwnR atc 2 w' 46 v' (rs ++ [r])) (k2 : Mod (own va) wx w') (k3 : Next wx.heap.size va v') (ht : r.1 = a.typ) (hy : Own wx 9 r.2 (a.vals.map sv)) (hf : Fresh (b + 1) r.2) : Dk w b g (w'.setCell ⟨g, 1, none⟩ v') vr st vd v' (rs ++ [r]) D (L ++ [a]) := by
  have hb := h.r.blk.lt
  have he := h.e.mod k2 (fun hk => ownR_ne_blk h.a.own h.e (by decide) hk rfl)
  have f' : Fresh (b + 1) v' := k3.fresh h.fa hb
  have sm := setc_mod w' g 1 v'
  have hr := h.r.mod k2 (fun hk => by have := h.fa b hk; omega) (fun k _ hk ho => by have := h.fa k ho; have := h.lo; omega)
  have hd := h.d.mod k2 (fun k hk ho => ownR_neR h.d h.a.own (by decide) hk ho)
  have ha := h.a.snoc k1 k2 ht hy
  have hx : Ext w w' := h.ex.trans k2 (fun _ _ h => h) (fun k hk ho => by have := h.fa k ho; have := h.lo; omega)
  exact ⟨hr.mod sm (fun e => by have := h.bg; omega) (fun k _ hk e => by have := h.lo; have := h.bg; omega), he.set_ 1 v', hd.mod sm (fun k hk e => ownR_ne_blk hd he (by decide) hk e),
    ha.mod sm (fun k hk e => ownR_ne_blk ha.own he (by decide) hk e) (fun r hr k hk e => by
      obtain ⟨i, hi, e'⟩ := List.getElem_of_mem hr
      have hl := ha.len
      exact (ha.els i r ((L ++ [a])[i]'(by omega)) (by rw [List.getElem?_eq_getElem hi, e']) (by rw [List.getElem?_eq_getElem (by omega)])).2.ne_blk he (by decide) (by rw [← e]; exact hk)),
    hx.trans sm (fun _ _ h => h) (fun k hk e => by have := h.lo; have := h.bg; omega), h.lo, h.bg, h.fd, f', fun x hx => by
      rcases List.mem_append.1 hx with hx | hx
      · exact h.fe x hx
      · rw [List.mem_singleton.1 hx]; exact hf⟩
end
end Go.Proofs.Ytlaaicdofompkaa
