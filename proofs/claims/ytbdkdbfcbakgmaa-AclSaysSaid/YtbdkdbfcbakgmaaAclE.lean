/- acl: what is more than is looked at; what the law knows. -/
import Derived.Test.YtbdkdbfcbakgmaaAclD
namespace Go.Proofs.Ytbdkdbfcbakgmaa
open Go.RowKit
set_option maxRecDepth 100000

section
variable {P : Program} {w : World} {t e : TypeId} {z : Value} {bytes : Nat} {ops : Array Oper} {o : Oper} {a : Act} {Q : Exit → Act → World → Prop}
/-- append(v, x, y) at a step of a region that draws. -/
theorem step_app2 {K : Act → World → Prop} {E : Prop} {d : Tmp} (hT : SliceTy P t e z bytes) {v x y : Value} {xs : List Value} (hown : Own w e v xs) (h1 : ∀ u ∈ [x, y], u.oneCell' = true) (hn : (xs.length + 2) * bytes ≤ 140737488355328)
    (hgd : o.guard = none) (hd : o.dst = some d) (s yy : Operand) (ho : o.op = .call { callee := .builtin .append, args := #[s, yy], argTypes := #[t, t] }) (hs : a.eval s = v) (hy : a.eval yy = .slice (some ⟨w.heap.size, 0, none⟩) 2 2)
    (h : ∀ v' w', Own w' e v' (xs ++ [x, y]) → Mod (own v) w w' → Next w.heap.size v v' → K (a.put o.dst v') w') : if Region.wanted o (yielded ops a.tmps) = true then Oper.wp P o a (w.alloc (.cells #[x, y] e)) K Q else E := by
  have hw : Region.wanted o (yielded ops a.tmps) = true := by simp [Region.wanted, hgd]
  rw [if_pos hw]
  obtain ⟨v', w', hrun, h2, h3, h4⟩ := run_app (P := P) hT o.type (hown.alloc (.cells #[x, y] e)) (Sl.lit w e [x, y] (by simp [maxLen])) h1 hn
  simp only [List.length_cons, List.length_nil] at hrun
  unfold Oper.wp execOp
  simp only [ho, resolve, invoke, builtin, Sem.run_bind, Sem.run_pure, Result.andThen_ok, List.map_toArray, List.map_cons, List.map_nil, hs, hy, hrun]
  simp only [Oper.upon, hd]
  have := h v' w' h2 (mod_app h3) (h4.sooner (by simp))
  rw [hd] at this
  exact this
end

set_option maxHeartbeats 4000000 in
theorem great_any {w : World} {v : Value} {C : List LRul} (h : Rl w (fun b => b < w.heap.size) v C) (hf : ∀ c ∈ C, RFits c.1) (hC : C.length ≤ 140737488355328) :
    Calls Try.prog 37 #[v] w fun e w' => ∃ q : Bool, e = .returned (.bool q) ∧ (q = false → C.length ≤ 81) ∧ Ext w w' := by
  obtain ⟨hC, hLd⟩ := h
  obtain ⟨A, c, rfl, r1, r2, r3, r4⟩ := hC.open_ rcell_len
  go_enter Try.func37, Try.ntmps37
  go_wp2_with fail
  go_loopw [3, 4] (fun n i wr => ∃ (k : Nat) (xs : List Value), k ≤ C.length ∧ k ≤ 81 ∧ i = .int .i64 k ∧ Own wr 22 n xs ∧ Fresh w.heap.size n ∧ xs.length = 2 * k ∧ Hid (∀ x ∈ xs, ∃ L, As w (fun b => b < w.heap.size) x L ∧ Fits L) ∧ Ext w wr) (fun _ i _ => C.length - (intOf i).toNat)
  case atStart => exact ⟨0, [], by omega, by omega, rfl, Own.nil _ _, fresh_nil _ _ _, rfl, Lib.hid (fun x hx => by cases hx), Mod.refl _ _⟩
  case round =>
    obtain ⟨k, xs, hk, hk81, rfl, p1, p2, p3, p4, hxr⟩ := hrel
    by_cases hlt : k < C.length
    · have hbl : decide ((k : Int) < (C.length : Int)) = true := dtrue (by omega)
      obtain ⟨ad, hA, hS, e0, e1, e2, e3, e4, e5, e6⟩ := rule_at (r4.ext hxr) hlt
      subst hA
      have hi0 : (0 : Int) ≤ (k : Int) := by omega
      have hi1 : (k : Int) < (C.length : Int) := by omega
      have hL := hLd _ (List.getElem_mem hlt)
      have hF := hf _ (List.getElem_mem hlt)
      generalize C[k] = cc at *
      obtain ⟨r, x, y⟩ := cc
      obtain ⟨An, cn, hxx⟩ := hL.1.shape
      obtain ⟨Ab, cb, hyy⟩ := hL.2.shape
      simp only at hxx hyy
      subst hxx
      subst hyy
      simp only at e0 e1 e2 e3 e4 e5 e6
      have hS' : (ad.add (k * 7)).block < w.heap.size := by rw [block_of_add]; exact hS
      have hx : ∀ wx, Mod (fun b => w.heap.size ≤ b) wr wx → wx.cell? ⟨(ad.add (k * 7)).block, (ad.add (k * 7)).off + 1, none⟩ = some (.slice An r.name.length cn) ∧ wx.cell? ⟨(ad.add (k * 7)).block, (ad.add (k * 7)).off + 2, none⟩ = some (.slice Ab r.base.length cb) ∧ wx.cell? ⟨(ad.add (k * 7)).block, (ad.add (k * 7)).off + 4, none⟩ = some (sv r.typ) := fun wx hm =>
        ⟨(hm.cell (lt_of_cell e1) (by show ¬ w.heap.size ≤ (ad.add (k * 7)).block; omega)).trans e1, (hm.cell (lt_of_cell e2) (by show ¬ w.heap.size ≤ (ad.add (k * 7)).block; omega)).trans e2, (hm.cell (lt_of_cell e4) (by show ¬ w.heap.size ≤ (ad.add (k * 7)).block; omega)).trans e4⟩
      clear hS' e0 e1 e2 e3 e4 e5 e6
      have hn1 := Lib.hid (show (xs.length + 2) * 24 ≤ 140737488355328 by omega)
      have ho : ∀ u ∈ ([.slice An r.name.length cn, .slice Ab r.base.length cb] : List Value), u.oneCell' = true := by
        intro u hu; simp only [List.mem_cons, List.not_mem_nil, or_false] at hu; rcases hu with rfl | rfl <;> rfl
      replace ho := Lib.hid ho
      have hp4 : Hid (∀ x ∈ xs ++ [.slice An r.name.length cn, .slice Ab r.base.length cb], ∃ L, As w (fun b => b < w.heap.size) x L ∧ Fits L) := Lib.hid (fun x hx => by
        rcases List.mem_append.1 hx with hx | hx
        · exact p4.out x hx
        · simp only [List.mem_cons, List.not_mem_nil, or_false] at hx
          rcases hx with rfl | rfl
          · exact ⟨_, hL.1, hF.1⟩
          · exact ⟨_, hL.2, hF.2.1⟩)
      have hz := sv_size r.typ
      have q0 : Mod (fun b => w.heap.size ≤ b) wr wr.drew := (Mod.refl _ wr).drew
      have p0 : Own wr.drew 22 u3 xs := p1
      clear hF hL
      go_wp2_with fail
      go_region_held3 (fun w' => w'.cell? ⟨(ad.add (k * 7)).block, (ad.add (k * 7)).off + 1, none⟩ = some (.slice An r.name.length cn) ∧ w'.cell? ⟨(ad.add (k * 7)).block, (ad.add (k * 7)).off + 2, none⟩ = some (.slice Ab r.base.length cb)) (first | exact ⟨(hx _ q0).1, (hx _ q0).2.1⟩ | exact ⟨(hx _ (q0.alloc _)).1, (hx _ (q0.alloc _)).2.1⟩ | exact ⟨(hx _ q3).1, (hx _ q3).2.1⟩) (first | (refine step_app2 tyN p0 ho.out hn1.out rfl rfl (.tmp 11) (.tmp 22) rfl rfl rfl ?_; intro v4 w4 g1 g2 g3; have q3 := q0.then_ g2 (fun b _ h => p2 b h)))
      have ew : Ext w w4 := hxr.trans q3 (fun _ _ h => h) (fun b hb h => by have : w.heap.size ≤ b := h; omega)
      have e4w := (hx _ q3).2.2
      have f4 : Fresh w.heap.size v4 := g3.fresh p2 hxr.size
      by_cases hk80 : 80 < k
      · have hb8 : decide ((80 : Int) < (k : Int)) = true := dtrue (by omega)
        go_wp2_with fail
        go_ret
        exact ⟨true, rfl, by simp, ew⟩
      have hb8 : decide ((80 : Int) < (k : Int)) = false := dfalse (by omega)
      by_cases ht : 100 < r.typ.length
      · have hb9 : decide ((100 : Int) < (r.typ.length : Int)) = true := dtrue (by omega)
        go_wp2_with fail
        go_ret
        exact ⟨true, rfl, by simp, ew⟩
      · have hb9 : decide ((100 : Int) < (r.typ.length : Int)) = false := dfalse (by omega)
        replace p3 := Lib.hid p3
        go_wp2_with fail
        exact ⟨⟨k + 1, _, by omega, by omega, by go_num, g1, f4, by rw [List.length_append, p3.out]; simp; omega, hp4, ew⟩, by simp [intOf] <;> omega⟩
    · have hbl : decide ((k : Int) < (C.length : Int)) = false := dfalse (by omega)
      have hsl := p1.sl
      go_wp2_with fail
      refine (heavy18_any (T := fun b => b < w.heap.size) hsl (fun x hx => by obtain ⟨L, h1, h2⟩ := p4.out x hx; exact ⟨L, h1.ext hxr, h2⟩)).mono ?_
      rintro e w5 ⟨q, rfl, x5⟩
      go_wp2_with fail
      go_ret
      exact ⟨q, rfl, fun _ => by omega, ext_trans hxr x5⟩

set_option maxHeartbeats 4000000 in
theorem known18_any {w : World} : Calls Try.prog 45 #[] w fun e w' => e = .returned (.bool true) ∧ Ext w w' := by
  have hL : As (w.alloc (.cells #[sv [99, 110], sv [114, 111, 111, 116]] 37)) (fun b => b < (w.alloc (.cells #[sv [99, 110], sv [114, 111, 111, 116]] 37)).heap.size) (.slice (some ⟨w.heap.size, 0, none⟩) 1 1) [([99, 110], [114, 111, 111, 116])] :=
    ⟨_, _, rfl, Nat.le_refl _, by simp [maxLen], by simp, rfl, fun j u hu => ⟨_, rfl, by simp, by
      rw [add_lit, cell_of_row _ w.heap.size j _ 37 (0, 0) (heap_alloc_new w _)]
      simpa using hu⟩⟩
  have fz : Fits [] := ⟨fun a ha => (by cases ha), by simp⟩
  have f1 : Fits [([99, 110], [114, 111, 111, 116])] := ⟨fun a ha => by simp at ha; subst ha; simp, by simp⟩
  have hz : ∀ wx S, Rl wx S (.slice none 0 0) [] := fun wx S => ⟨Rc.nil _ _ _ _, fun c hc => by cases hc⟩
  have k1 := may_any (ty := [99, 110]) (right := 1) (hz _ _) (fun c hc => by cases hc) (by simp) hL hL (Rc.nil _ _ _ _) f1 f1 fz (by simp) (by omega) (by omega)
  have k2 := fun wx (hx : Ext _ wx) => may_any (ty := [99, 110]) (right := 1) (hz wx _) (fun c hc => by cases hc) (by simp) (hL.ext hx) (Rc.nil _ _ _ _) (Rc.nil _ _ _ _) f1 fz fz (by simp) (by omega) (by omega)
  rw [show mayR (List.map (·.1) ([] : List LRul)) [([99, 110], [114, 111, 111, 116])] [([99, 110], [114, 111, 111, 116])] [] [99, 110] 1 = true by decide] at k1
  rw [show mayR (List.map (·.1) ([] : List LRul)) [([99, 110], [114, 111, 111, 116])] [] [] [99, 110] 1 = false by decide] at k2
  go_enter Try.func45, Try.ntmps45
  go_wp2_with fail
  refine k1.mono ?_
  rintro e w1 ⟨rfl, x1⟩
  go_wp2_with fail
  refine (k2 _ x1).mono ?_
  rintro e w2 ⟨rfl, x2⟩
  go_wp2_with fail
  go_ret
  exact ⟨rfl, ext_trans (ext_trans ((Mod.refl _ w).alloc _) x1) x2⟩
end Go.Proofs.Ytbdkdbfcbakgmaa
