/- msg: fits, bare, the document's blank, for any kind. -/
import Derived.Test.YtoockogceobfgaaMgStm
import Derived.Test.YtoockogceobfgaaMgZcm
import Derived.Test.YtoockogceobfgaaRecInm
import Derived.Test.YtoockogceobfgaaBerGm
import Derived.Test.YtoockogceobfgaaMdCm
import Derived.Laws.StructEq
import Derived.WalkLawsBesides
import Derived.Deep.RegionHeld3
import Derived.Test.YtoockogceobfgaaMgEm
namespace Go.Proofs.Ytoockogceobfgaa
open Go.RowKit
set_option maxRecDepth 100000

theorem ss_nil (w : World) (S : Nat → Prop) : Ss w S (.slice none 0 0) [] := Sl.nil w S
theorem Mds.nil (w : World) : Mds w (.slice none 0 0) [] := ⟨[], Rc.nil mdc 3 w _, rfl, fun k r a hr => by simp at hr⟩
theorem Ats.nil25 (w : World) : Ats w (.slice none 0 0) [] := ⟨[], Rc.nil atc 2 w _, rfl, fun k r a hr => by simp at hr⟩
theorem fi0_in (m : Nat) (w : World) : FilN (m + 1) w fi0 (.slice none 0 0) (.slice none 0 0) :=
  ⟨⟨by decide, by decide, by decide, by decide, by simp [Fi.subs], by decide⟩, ss_nil w _, [], Rc.nil fic 5 w _, rfl, by simp⟩
theorem RqAt.lens {n : Nat} {w : World} {r : Rq} {vs vk : Value} {A2 A3 A4 : Option Addr} {A2n A2c A3n A3c A4n A4c : Nat} (h : RqAt n w r vs vk (.slice A2 A2n A2c) (.slice A3 A3n A3c) (.slice A4 A4n A4c)) : A2n = r.want.length ∧ A3n = r.mods.length ∧ A4n = r.ats.length := by
  obtain ⟨a, c, e, -⟩ := h.want.open_
  obtain ⟨a', c', e', -⟩ := h.mods.open_
  obtain ⟨a2, c2, e2, -⟩ := h.ats.open_
  injection e with _ e _
  injection e' with _ e' _
  injection e2 with _ e2 _
  exact ⟨e, e', e2⟩
theorem fits25_any {n : Nat} {w : World} {r : Rq} {A0 A1 A2 A3 A4 : Option Addr} {A0n A0c A1n A1c A2n A2c A3n A3c A4n A4c : Nat} (h : RqAt n w r (.slice A0 A0n A0c) (.slice A1 A1n A1c) (.slice A2 A2n A2c) (.slice A3 A3n A3c) (.slice A4 A4n A4c)) :
    Calls Try.prog 81 #[.agg #[.int .i64 r.num, .int .i64 r.kind, sv r.dn, sv r.pass, .int .i64 r.scope, .int .i64 r.limit, .int .i64 r.fil.kind, sv r.fil.typ, sv r.fil.val, .slice A0 A0n A0c, .slice A1 A1n A1c, .slice A2 A2n A2c, .slice A3 A3n A3c, .slice A4 A4n A4c, sv r.rdn, .bool r.keep, .bool r.above, sv r.up, sv r.avt, sv r.avv, .int .i64 r.which]] w fun e w' => e = .returned (.bool (fitsQ n r)) ∧ Ext w w' := by
  obtain ⟨l2, l3, l4⟩ := h.lens
  by_cases ho : isOp r.kind
  · rcases ho with e | e | e | e | e | e | e | e | e
    · have hq : fitsQ n r = true := by unfold fitsQ; rw [if_pos (by omega)]
      rw [hq, e]
      exact fits0_any
    · have hq : fitsQ n r = true := by unfold fitsQ; rw [if_pos (by omega)]
      rw [hq, e]
      exact fits2_any
    · have hq : fitsQ n r = (decide (0 ≤ r.scope) && (decide (r.scope ≤ 2) && (numQ r.limit && (isN n r.fil && decide (r.want.length ≤ 64))))) := by unfold fitsQ; rw [if_neg (by omega), if_pos e]
      rw [hq, e]
      exact by have := fits3_any (num := r.num) (scope := r.scope) (limit := r.limit) (which := r.which) (dn := r.dn) (pass := r.pass) (rdn := r.rdn) (up := r.up) (avt := r.avt) (avv := r.avv) (keep := r.keep) (above := r.above) (W1 := A2) (W2 := A2n) (W3 := A2c) (M1 := A3) (M2 := A3n) (M3 := A3c) (A1 := A4) (A2 := A4n) (A3 := A4c) h.fil; rw [← l2]; exact this
    · have hq : fitsQ n r = (decide (r.mods.length ≤ 64) && r.mods.all mdQ) := by unfold fitsQ; rw [if_neg (by omega), if_neg (by omega), if_pos e]
      rw [hq, e]
      exact by rw [← l3]; exact fits6_any h.mods
    · have hq : fitsQ n r = (decide (r.ats.length ≤ 64) && r.ats.all atQ) := by unfold fitsQ; rw [if_neg (by omega), if_neg (by omega), if_neg (by omega), if_pos e]
      rw [hq, e]
      exact by rw [← l4]; exact fits8_any h.ats
    · have hq : fitsQ n r = true := by unfold fitsQ; rw [if_pos (by omega)]
      rw [hq, e]
      exact fits10_any
    · have hq : fitsQ n r = (r.above || decide (r.up = [])) := by unfold fitsQ; rw [if_neg (by omega), if_neg (by omega), if_neg (by omega), if_neg (by omega), if_pos e]
      rw [hq, e]
      exact fits12_any
    · have hq : fitsQ n r = true := by unfold fitsQ; rw [if_pos (by omega)]
      rw [hq, e]
      exact fits14_any
    · have hq : fitsQ n r = numQ r.which := by unfold fitsQ; rw [if_neg (by omega), if_neg (by omega), if_neg (by omega), if_neg (by omega), if_neg (by omega), if_pos e]
      rw [hq, e]
      exact fits16_any
  · have ho' := ho
    unfold isOp at ho'
    have hq : fitsQ n r = false := by unfold fitsQ; rw [if_neg (by omega), if_neg (by omega), if_neg (by omega), if_neg (by omega), if_neg (by omega), if_neg (by omega)]
    rw [hq]
    exact fitsno_any (by omega) (by omega) (by omega) (by omega) (by omega) (by omega) (by omega) (by omega) (by omega)
set_option maxHeartbeats 4000000 in
theorem bare25_any {n : Nat} {w : World} {r : Rq} {A0 A1 A2 A3 A4 : Option Addr} {A0n A0c A1n A1c A2n A2c A3n A3c A4n A4c : Nat} (h : RqAt n w r (.slice A0 A0n A0c) (.slice A1 A1n A1c) (.slice A2 A2n A2c) (.slice A3 A3n A3c) (.slice A4 A4n A4c)) (ho : isOp r.kind) :
    Calls Try.prog 83 #[.agg #[.int .i64 r.num, .int .i64 r.kind, sv r.dn, sv r.pass, .int .i64 r.scope, .int .i64 r.limit, .int .i64 r.fil.kind, sv r.fil.typ, sv r.fil.val, .slice A0 A0n A0c, .slice A1 A1n A1c, .slice A2 A2n A2c, .slice A3 A3n A3c, .slice A4 A4n A4c, sv r.rdn, .bool r.keep, .bool r.above, sv r.up, sv r.avt, sv r.avv, .int .i64 r.which]] w fun e w' => ∃ (B0 B1 B2 B3 B4 : Option Addr) (B0n B0c B1n B1c B2n B2c B3n B3c B4n B4c : Nat), e = .returned (.agg #[.int .i64 (bareQ r).num, .int .i64 (bareQ r).kind, sv (bareQ r).dn, sv (bareQ r).pass, .int .i64 (bareQ r).scope, .int .i64 (bareQ r).limit, .int .i64 (bareQ r).fil.kind, sv (bareQ r).fil.typ, sv (bareQ r).fil.val, .slice B0 B0n B0c, .slice B1 B1n B1c, .slice B2 B2n B2c, .slice B3 B3n B3c, .slice B4 B4n B4c, sv (bareQ r).rdn, .bool (bareQ r).keep, .bool (bareQ r).above, sv (bareQ r).up, sv (bareQ r).avt, sv (bareQ r).avv, .int .i64 (bareQ r).which]) ∧ RqAt n w' (bareQ r) (.slice B0 B0n B0c) (.slice B1 B1n B1c) (.slice B2 B2n B2c) (.slice B3 B3n B3c) (.slice B4 B4n B4c) ∧ Ext w w' := by
  obtain ⟨m, rfl⟩ : ∃ m, n = m + 1 := by
    cases n with
    | zero => exact h.fil.elim
    | succ m => exact ⟨m, rfl⟩
  rcases ho with e | e | e | e | e | e | e | e | e
  · have hb : bareQ r = ⟨r.num, 0, r.dn, r.pass, 0, 0, fi0, [], [], [], [], false, false, [], [], [], 0⟩ := by simp [bareQ, e]
    rw [hb, e]
    refine (bareq0_any).mono ?_
    rintro e' w' ⟨rfl, x⟩
    exact ⟨none, none, none, none, none, 0, 0, 0, 0, 0, 0, 0, 0, 0, 0, rfl, ⟨fi0_in m _, ss_nil _ _, Mds.nil _, Ats.nil25 _⟩, x⟩
  · have hb : bareQ r = ⟨r.num, 2, [], [], 0, 0, fi0, [], [], [], [], false, false, [], [], [], 0⟩ := by simp [bareQ, e]
    rw [hb, e]
    refine (bareq2_any).mono ?_
    rintro e' w' ⟨rfl, x⟩
    exact ⟨none, none, none, none, none, 0, 0, 0, 0, 0, 0, 0, 0, 0, 0, rfl, ⟨fi0_in m _, ss_nil _ _, Mds.nil _, Ats.nil25 _⟩, x⟩
  · have hb : bareQ r = ⟨r.num, 3, r.dn, [], r.scope, r.limit, r.fil, r.want, [], [], [], false, false, [], [], [], 0⟩ := by simp [bareQ, e]
    rw [hb, e]
    refine (bareq3_any).mono ?_
    rintro e' w' ⟨rfl, x⟩
    exact ⟨A0, A1, A2, none, none, A0n, A0c, A1n, A1c, A2n, A2c, 0, 0, 0, 0, rfl, ⟨h.fil.ext x, Sl.ext h.want x, Mds.nil _, Ats.nil25 _⟩, x⟩
  · have hb : bareQ r = ⟨r.num, 6, r.dn, [], 0, 0, fi0, [], r.mods, [], [], false, false, [], [], [], 0⟩ := by simp [bareQ, e]
    rw [hb, e]
    refine (bareq6_any).mono ?_
    rintro e' w' ⟨rfl, x⟩
    exact ⟨none, none, none, A3, none, 0, 0, 0, 0, 0, 0, A3n, A3c, 0, 0, rfl, ⟨fi0_in m _, ss_nil _ _, h.mods.ext x, Ats.nil25 _⟩, x⟩
  · have hb : bareQ r = ⟨r.num, 8, r.dn, [], 0, 0, fi0, [], [], r.ats, [], false, false, [], [], [], 0⟩ := by simp [bareQ, e]
    rw [hb, e]
    refine (bareq8_any).mono ?_
    rintro e' w' ⟨rfl, x⟩
    exact ⟨none, none, none, none, A4, 0, 0, 0, 0, 0, 0, 0, 0, A4n, A4c, rfl, ⟨fi0_in m _, ss_nil _ _, Mds.nil _, h.ats.ext x⟩, x⟩
  · have hb : bareQ r = ⟨r.num, 10, r.dn, [], 0, 0, fi0, [], [], [], [], false, false, [], [], [], 0⟩ := by simp [bareQ, e]
    rw [hb, e]
    refine (bareq10_any).mono ?_
    rintro e' w' ⟨rfl, x⟩
    exact ⟨none, none, none, none, none, 0, 0, 0, 0, 0, 0, 0, 0, 0, 0, rfl, ⟨fi0_in m _, ss_nil _ _, Mds.nil _, Ats.nil25 _⟩, x⟩
  · have hb : bareQ r = ⟨r.num, 12, r.dn, [], 0, 0, fi0, [], [], [], r.rdn, r.keep, r.above, r.up, [], [], 0⟩ := by simp [bareQ, e]
    rw [hb, e]
    refine (bareq12_any).mono ?_
    rintro e' w' ⟨rfl, x⟩
    exact ⟨none, none, none, none, none, 0, 0, 0, 0, 0, 0, 0, 0, 0, 0, rfl, ⟨fi0_in m _, ss_nil _ _, Mds.nil _, Ats.nil25 _⟩, x⟩
  · have hb : bareQ r = ⟨r.num, 14, r.dn, [], 0, 0, fi0, [], [], [], [], false, false, [], r.avt, r.avv, 0⟩ := by simp [bareQ, e]
    rw [hb, e]
    refine (bareq14_any).mono ?_
    rintro e' w' ⟨rfl, x⟩
    exact ⟨none, none, none, none, none, 0, 0, 0, 0, 0, 0, 0, 0, 0, 0, rfl, ⟨fi0_in m _, ss_nil _ _, Mds.nil _, Ats.nil25 _⟩, x⟩
  · have hb : bareQ r = ⟨r.num, 16, [], [], 0, 0, fi0, [], [], [], [], false, false, [], [], [], r.which⟩ := by simp [bareQ, e]
    rw [hb, e]
    refine (bareq16_any).mono ?_
    rintro e' w' ⟨rfl, x⟩
    exact ⟨none, none, none, none, none, 0, 0, 0, 0, 0, 0, 0, 0, 0, 0, rfl, ⟨fi0_in m _, ss_nil _ _, Mds.nil _, Ats.nil25 _⟩, x⟩
end Go.Proofs.Ytoockogceobfgaa
namespace Go.Proofs.Ytoockogceobfgaa
open Go.RowKit
set_option maxRecDepth 100000

section
variable {P : Program} {w : World} {t e : TypeId} {z : Value} {k bytes : Nat} {ops : Array Oper} {rest : List Oper} {o : Oper} {a : Act} {Q : Exit → Act → World → Prop} {α : Type} {f : α → List Value} {S : Nat → Prop}
/-- append(v, ys...), whole rows of records. -/
theorem wp_appRs (hT : SliceTyK P t e z k bytes) {v y : Value} {L M : List α} (hown : OwnR f k w e v L) (hr : Rc f k w S y M) (h1 : ∀ x, ∀ u ∈ f x, u.oneCell' = true) (hn : (L.length + M.length) * bytes ≤ 140737488355328)
    (hgd : o.guard = none) (s x : Operand) (ho : o.op = .call { callee := .builtin .append, args := #[s, x], argTypes := #[t, t] }) (hs : a.eval s = v) (hx : a.eval x = y)
    (h : ∀ v' w', OwnR f k w' e v' (L ++ M) → Mod (own v) w w' → Next w.heap.size v v' → wpList P ops Q rest (a.put o.dst v') w') : wpList P ops Q (o :: rest) a w :=
  wp_appk hT hown hr (fun u hu => by obtain ⟨x, _, hx⟩ := List.mem_flatMap.1 hu; exact h1 x u hx) hgd s x ho hs hx hn fun v' w' k1 k2 k3 => h v' w' (by unfold OwnR; rw [List.length_append, List.flatMap_append]; exact k1) k2 k3
theorem OwnR.empty (f : α → List Value) (k : Nat) (w : World) (e : TypeId) : OwnR f k (w.alloc (.cells #[] e)) e (.slice (some ⟨w.heap.size, 0, none⟩) 0 0) [] :=
  ⟨by simp, .inr ⟨w.heap.size, 0, #[], rfl, Nat.zero_le _, heap_alloc_new w _, Nat.le_refl _, Nat.zero_le _, by simp, by simp⟩⟩
theorem fresh_new (w : World) (n c : Nat) : Fresh w.heap.size (.slice (some ⟨w.heap.size, 0, none⟩) n c) := fun k hk => by have : w.heap.size = k := Option.some.inj hk; omega
end
theorem tyA : SliceTyK Try.prog 40 46 (.agg #[.string ⟨#[]⟩, .string ⟨#[]⟩]) 2 32 := ⟨Try.underlying40, by kernel_rfl, rfl, by decide, by decide⟩
abbrev OwnA (w : World) (v : Value) (L : List (List UInt8 × List UInt8)) : Prop := OwnR avc 2 w 46 v L
theorem clone_any {w : World} {S : Nat → Prop} {v : Value} {L : List (List UInt8 × List UInt8)} (h : As w S v L) (hf : L.length * 32 ≤ 140737488351232) :
    Calls Try.prog 45 #[v] w fun e w' => ∃ v', e = .returned v' ∧ OwnA w' v' L ∧ Fresh w.heap.size v' ∧ Ext w w' := by
  obtain ⟨A, c, rfl, h1, h2, h3, h4⟩ := h.open_ avc_len
  cases A with
  | none =>
    obtain rfl : c = 0 := h3 rfl
    obtain rfl : L = [] := List.eq_nil_of_length_eq_zero (by omega)
    have he : ∀ wx : World, (binOp .eql 40 (.slice none 0 0) (.slice none 0 0)).run Try.prog wx = .ok (.bool true) wx := fun _ => rfl
    go_enter Try.func45, Try.ntmps45
    go_wp2_with fail
    go_ret
    exact ⟨_, rfl, OwnR.nil _ _ _ _, fresh_nil _ _ _, Mod.refl _ _⟩
  | some ad =>
    have hx : Ext w (w.alloc (.cells #[] 46)) := (Mod.refl _ w).alloc _
    have hn := Lib.hid (show (([] : List (List UInt8 × List UInt8)).length + L.length) * 32 ≤ 140737488355328 by simp; omega)
    have hr := h.ext hx
    have he : ∀ wx : World, (binOp .eql 40 (.slice (some ad) L.length c) (.slice none 0 0)).run Try.prog wx = .ok (.bool false) wx := fun _ => rfl
    have ho := OwnR.empty avc 2 w 46
    go_enter Try.func45, Try.ntmps45
    go_wp2_with ((with_reducible show wpList _ _ _ (⟨some 7, _, _, _, _, _⟩ :: _) _ _); refine wp_appRs tyA ho hr (fun x => avc_ok x) hn.out rfl (.tmp 5) (.tmp 6) rfl rfl rfl ?_; intro v2 w2 k1 k2 k3)
    go_ret
    exact ⟨_, rfl, k1, k3.fresh (fresh_new w 0 0) (by simp), hx.trans k2 (fun _ _ h => h) (fun b hb hh => by have : w.heap.size = b := Option.some.inj hh; omega)⟩
theorem snew_any {w : World} : Calls Try.prog 14 #[] w fun e w' => e = .returned (.pointer (some ⟨w.heap.size, 0, none⟩)) ∧ w' = w.alloc (.cells #[.bool true, .slice none 0 0, .slice none 0 0] 86) := by
  go_enter Try.func14, Try.ntmps14
  go_wp2_with fail
  go_ret
  exact ⟨rfl, rfl⟩
section
variable {w : World} {p : Nat} {o : Bool} {x y : Value}
theorem sopen_any (B : Blk w p 86 #[.bool o, x, y]) : Calls Try.prog 16 #[.pointer (some ⟨p, 0, none⟩)] w fun e w' => e = .returned (.bool o) ∧ w' = w := by
  have c0 : w.cell? ⟨p, 0, none⟩ = some (.bool o) := B.cell 0
  go_enter Try.func16, Try.ntmps16
  go_wp2_with fail
  go_ret
  exact ⟨rfl, rfl⟩
theorem sopen_nil : Calls Try.prog 16 #[.pointer none] w fun e w' => e = .returned (.bool false) ∧ w' = w := by
  go_enter Try.func16, Try.ntmps16
  go_wp2_with fail
  go_ret
  exact ⟨rfl, rfl⟩
theorem swait_any {A : Option Addr} {n c : Nat} (B : Blk w p 86 #[.bool o, .slice A n c, y]) : Calls Try.prog 20 #[.pointer (some ⟨p, 0, none⟩)] w fun e w' => e = .returned (.int .i64 n) ∧ w' = w := by
  have c1 : w.cell? ⟨p, 1, none⟩ = some (.slice A n c) := B.cell 1
  go_enter Try.func20, Try.ntmps20
  go_wp2_with fail
  go_ret
  exact ⟨rfl, rfl⟩
theorem swait_nil : Calls Try.prog 20 #[.pointer none] w fun e w' => e = .returned (.int .i64 0) ∧ w' = w := by
  go_enter Try.func20, Try.ntmps20
  go_wp2_with fail
  go_ret
  exact ⟨rfl, rfl⟩
theorem sclose_any (B : Blk w p 86 #[.bool o, x, y]) : Calls Try.prog 18 #[.pointer (some ⟨p, 0, none⟩)] w fun e w' => e = .returned (.tuple #[]) ∧ Blk w' p 86 #[.bool false, .slice none 0 0, y] ∧ Mod (fun k => k = p) w w' := by
  have f0 := B.frozen 0
  have f1 := (B.set_ 0 (.bool false)).frozen 1
  have c0 : w.cell? ⟨p, 0, none⟩ = some (.bool o) := B.cell 0
  have c1 : (w.setCell ⟨p, 0, none⟩ (.bool false)).cell? ⟨p, 1, none⟩ = some x := (B.set_ 0 (.bool false)).cell 1
  have B2 := (B.set_ 0 (.bool false)).set_ 1 (.slice none 0 0)
  have m2 := ((Mod.refl (fun k => k = p) w).setCell (p := ⟨p, 0, none⟩) (fun _ => rfl) (.bool false)).setCell (p := ⟨p, 1, none⟩) (fun _ => rfl) (.slice none 0 0)
  go_enter Try.func18, Try.ntmps18
  go_wp2_with fail
  go_end0
  exact ⟨rfl, B2, m2⟩
theorem sclose_nil : Calls Try.prog 18 #[.pointer none] w fun e w' => e = .returned (.tuple #[]) ∧ w' = w := by
  go_enter Try.func18, Try.ntmps18
  go_wp2_with fail
  go_end0
  exact ⟨rfl, rfl⟩
theorem swho_any {S : Nat → Prop} {L : List (List UInt8 × List UInt8)} (B : Blk w p 86 #[.bool o, x, y]) (h : As w S y L) (hf : L.length * 32 ≤ 140737488351232) : Calls Try.prog 15 #[.pointer (some ⟨p, 0, none⟩)] w fun e w' => ∃ v', e = .returned v' ∧ OwnA w' v' L ∧ Fresh w.heap.size v' ∧ Ext w w' := by
  obtain ⟨A, c, rfl, -⟩ := id (h.open_ avc_len)
  have c2 : w.cell? ⟨p, 2, none⟩ = some (.slice A L.length c) := B.cell 2
  go_enter Try.func15, Try.ntmps15
  go_wp2_with fail
  refine (clone_any h hf).mono ?_
  rintro e w1 ⟨v1, rfl, k1, k2, k3⟩
  go_wp2_with fail
  go_ret
  exact ⟨_, rfl, k1, k2, k3⟩
theorem swho_nil : Calls Try.prog 15 #[.pointer none] w fun e w' => e = .returned (.slice none 0 0) ∧ w' = w := by
  go_enter Try.func15, Try.ntmps15
  go_wp2_with fail
  go_ret
  exact ⟨rfl, rfl⟩
theorem sbind_any {S : Nat → Prop} {v : Value} {L : List (List UInt8 × List UInt8)} (B : Blk w p 86 #[.bool o, x, y]) (h : As w S v L) (hf : L.length * 32 ≤ 140737488351232) : Calls Try.prog 17 #[.pointer (some ⟨p, 0, none⟩), v] w fun e w' => ∃ v', e = .returned (.tuple #[]) ∧ Blk w' p 86 #[.bool o, x, v'] ∧ OwnA w' v' L ∧ Fresh w.heap.size v' ∧ Mod (fun k => k = p) w w' := by
  have hpl := B.lt
  obtain ⟨A, c, rfl, -⟩ := id (h.open_ avc_len)
  go_enter Try.func17, Try.ntmps17
  go_wp2_with fail
  refine (clone_any h hf).mono ?_
  rintro e w1 ⟨v1, rfl, k1, k2, k3⟩
  have B1 := B.mod k3 (fun h => h)
  obtain ⟨A1, c1, rfl⟩ := k1.shape
  have f2 := B1.frozen 2
  have c2 : w1.cell? ⟨p, 2, none⟩ = some y := B1.cell 2
  have ym := (Mod.refl (fun k => k = p) w1).setCell (p := ⟨p, 2, none⟩) (fun _ => rfl) (.slice A1 L.length c1)
  have B2 := B1.set_ 2 (.slice A1 L.length c1)
  have o2 := k1.mod ym (fun b hb e => by have := k2 b hb; have : b = p := e; omega)
  have m2 := (k3.mono (fun _ _ h => h.elim) : Mod (fun k => k = p) w w1).then_ ym (fun _ _ h => h)
  go_wp2_with fail
  go_end0
  exact ⟨_, rfl, B2, o2, k2, m2⟩
theorem sbind_nil {v : Value} : Calls Try.prog 17 #[.pointer none, v] w fun e w' => e = .returned (.tuple #[]) ∧ w' = w := by
  go_enter Try.func17, Try.ntmps17
  go_wp2_with fail
  go_end0
  exact ⟨rfl, rfl⟩
end
end Go.Proofs.Ytoockogceobfgaa
namespace Go.Proofs.Ytoockogceobfgaa
open Go.RowKit
set_option maxRecDepth 100000

theorem rowAt {w : World} {g : Nat} {t : TypeId} {l : List Value} (h : Blk w g t l.toArray) : w.rangeAt g 0 l := fun j v hj => by rw [Nat.zero_add, h.cell]; simpa using hj
theorem oper2_any {w : World} {p : Nat} {A : Option Addr} {c : Nat} (c1 : w.cell? ⟨p, 1, none⟩ = some (.int .i64 2)) :
    Calls Try.prog 86 #[.pointer (some ⟨p, 0, none⟩), .slice A 0 c] w fun e w' => e = .returned (.bool true) ∧ w' = w := by
  go_enter Try.func86, Try.ntmps86
  go_wp2_with fail
  go_ret
  exact ⟨rfl, rfl⟩
set_option maxHeartbeats 8000000 in
theorem mess2_any {w : World} {S : Nat → Prop} {v : Value} (h : Bs w S v [2, 1, 1, 66, 0]) :
    Calls Try.prog 72 #[v] w fun e w' => e = .returned (.tuple #[.agg #[.int .i64 1, .int .i64 2, .string ⟨#[]⟩, .string ⟨#[]⟩, .int .i64 0, .int .i64 0, .int .i64 0, .string ⟨#[]⟩, .string ⟨#[]⟩, .slice none 0 0, .slice none 0 0, .slice none 0 0, .slice none 0 0, .slice none 0 0, .string ⟨#[]⟩, .bool false, .bool false, .string ⟨#[]⟩, .string ⟨#[]⟩, .string ⟨#[]⟩, .int .i64 0], .bool true]) ∧ Ext w w' := by
  obtain ⟨w2, hw2⟩ : ∃ x, x = w.alloc (.cells z21 84) := ⟨_, rfl⟩
  obtain ⟨q, hq⟩ : ∃ q, q = w.heap.size := ⟨_, rfl⟩
  have x2 : Ext w w2 := by rw [hw2]; exact (Mod.refl _ w).alloc _
  have BQ : Blk w2 q 84 z21 := by rw [hw2, hq]; exact Blk.new w _ _
  have hqn : ¬ q < w.heap.size := by omega
  have hcall := alls_any (h.ext x2) (by decide)
  obtain ⟨A0, c0, rfl, -, -, -, -⟩ := h.open_
  have hits : balls ([2, 1, 1, 66, 0] : List UInt8).length [2, 1, 1, 66, 0] [] = ([(2, [1]), (66, [])], 0) := by kernel_rfl
  rw [hits] at hcall
  have hnum : numD [1] 2147483647 = some 1 := by kernel_rfl
  replace hw2 := Lib.hid hw2
  replace hq := Lib.hid hq
  clear h hits
  go_enter Try.func72, Try.ntmps72
  go_upto_region 1 with fail
  rw [← hw2.out, ← hq.out]
  clear hw2 hq
  go_wp2_with fail
  refine hcall.mono ?_
  rintro e w3 ⟨v1, rfl, g1, x3⟩
  clear hcall
  obtain ⟨A, c, rfl⟩ := g1.shape
  obtain ⟨ad, y0, rfl, i0, i1, i2⟩ := g1.at_ (i := 0) (by simp)
  obtain ⟨ad2, y1, hA2, j0, j1, j2⟩ := g1.at_ (i := 1) (by simp)
  injection hA2 with hA2
  subst hA2
  simp only [List.getElem_cons_zero, List.getElem_cons_succ] at i2 j2
  obtain ⟨Ay, cy, rfl, -, -, -, -⟩ := id i2.open_
  obtain ⟨Az, cz, rfl, -, -, -, -⟩ := id j2.open_
  have i0' : w3.cell? ad = some (.int .u8 2) := i0
  have i1' : w3.cell? ⟨ad.block, ad.off + 1, none⟩ = some (.slice Ay 1 cy) := i1
  have j0' : w3.cell? ⟨ad.block, ad.off + 2, none⟩ = some (.int .u8 66) := j0
  have j1' : w3.cell? ⟨ad.block, ad.off + 2 + 1, none⟩ = some (.slice Az 0 cz) := j1
  have B3 := BQ.mod x3 (fun h => h)
  have z3 := ext_trans x2 x3
  obtain ⟨w4, hw4⟩ : ∃ x, x = w3.alloc (.cells #[.int .u8 66, .slice Az 0 cz] 112) := ⟨_, rfl⟩
  obtain ⟨ob, hob⟩ : ∃ x, x = w3.heap.size := ⟨_, rfl⟩
  have x4 : Ext w3 w4 := by rw [hw4]; exact (Mod.refl _ w3).alloc _
  have BO : Blk w4 ob 112 #[.int .u8 66, .slice Az 0 cz] := by rw [hw4, hob]; exact Blk.new w3 _ _
  have hqlt := B3.lt
  replace hw4 := Lib.hid hw4
  replace hob := Lib.hid hob
  clear g1 i0 i1 j0 j1 j2 BQ x2 x3
  go_upto_region 5 with fail
  rw [← hw4.out, ← hob.out]
  clear hw4
  have i0 := ext_cell x4 i0'
  have i1 := ext_cell x4 i1'
  have h2 := i2.ext x4
  have B4 := B3.mod x4 (fun h => h)
  have z4 := ext_trans z3 x4
  clear i0' i1' j0' j1' i2 B3 z3
  obtain ⟨w5, hw5⟩ : ∃ x, x = (w4.alloc (.cells z21 84)).setRow w4.heap.size #[.int .i64 0, .int .i64 2, .string ⟨#[]⟩, .string ⟨#[]⟩, .int .i64 0, .int .i64 0, .int .i64 0, .string ⟨#[]⟩, .string ⟨#[]⟩, .slice none 0 0, .slice none 0 0, .slice none 0 0, .slice none 0 0, .slice none 0 0, .string ⟨#[]⟩, .bool false, .bool false, .string ⟨#[]⟩, .string ⟨#[]⟩, .string ⟨#[]⟩, .int .i64 0] := ⟨_, rfl⟩
  obtain ⟨rb, hrb⟩ : ∃ x, x = w4.heap.size := ⟨_, rfl⟩
  have x5 : Ext w4 w5 := by rw [hw5]; exact ((Mod.refl (fun _ => False) w4).alloc _).setRow (fun h => absurd h (Nat.lt_irrefl _)) _
  have B5 := Blk.new w4 84 z21
  have BR : Blk w5 rb 84 #[.int .i64 0, .int .i64 2, .string ⟨#[]⟩, .string ⟨#[]⟩, .int .i64 0, .int .i64 0, .int .i64 0, .string ⟨#[]⟩, .string ⟨#[]⟩, .slice none 0 0, .slice none 0 0, .slice none 0 0, .slice none 0 0, .slice none 0 0, .string ⟨#[]⟩, .bool false, .bool false, .string ⟨#[]⟩, .string ⟨#[]⟩, .string ⟨#[]⟩, .int .i64 0] := by rw [hw5, hrb]; exact B5.setRow _
  have hand : bits .and .u8 (66 : Int) 31 = 2 := by rfl
  have o0 : w4.cell? ⟨ob, 0, none⟩ = some (.int .u8 66) := BO.cell 0
  have hqo : ob ≠ q := by rw [hob.out]; have := hqlt; omega
  replace hw5 := Lib.hid hw5
  have hor : ob ≠ rb := by rw [hrb]; have := BO.lt; omega
  have hrw : ¬ rb < w.heap.size := by rw [hrb]; have := z4.size; omega
  have hqr : rb ≠ q := by rw [hrb]; have := B4.lt; omega
  replace hrb := Lib.hid hrb
  go_upto_region 6 with ((with_reducible show wpList _ _ _ (⟨none, .store 84 _ _, _, _, _, _⟩ :: _) _ _); refine wpList_store_row rfl 84 (.tmp 7) (.tmp 54) rfl _ #[.int .i64 0, .int .i64 2, .string ⟨#[]⟩, .string ⟨#[]⟩, .int .i64 0, .int .i64 0, .int .i64 0, .string ⟨#[]⟩, .string ⟨#[]⟩, .slice none 0 0, .slice none 0 0, .slice none 0 0, .slice none 0 0, .slice none 0 0, .string ⟨#[]⟩, .bool false, .bool false, .string ⟨#[]⟩, .string ⟨#[]⟩, .string ⟨#[]⟩, .int .i64 0] rfl rfl _ _ B5 size21 rfl (by simp [Value.oneCell']) ?_)
  rw [← hw5.out, ← hrb.out]
  clear hw5 hrb B5 o0 hob hqlt
  have i0' := ext_cell x5 i0
  have i1' := ext_cell x5 i1
  have B6 := B4.mod x5 (fun h => h)
  have z5 := ext_trans z4 x5
  have BO5 := BO.mod x5 (fun h => h)
  have hnb := number_any (t := 2) (m := 2147483647) (h2.ext x5)
  rw [hnum] at hnb
  clear i0 i1 h2 B4 z4 BO x4 x5
  go_wp2_with fail
  refine hnb.mono ?_
  rintro e w6 ⟨rfl, x6⟩
  have z6 := ext_trans z5 x6
  have BO6 := BO5.mod x6 (fun h => h)
  have BR6 := BR.mod x6 (fun h => h)
  have B7 := B6.mod x6 (fun h => h)
  clear hnb i0' i1' B6 BR BO5 z5 x6
  have hc : ∀ wx, Ext w6 wx → wx.cell? ⟨ob, 0, none⟩ = some (.int .u8 66) ∧ wx.cell? ⟨rb, 1, none⟩ = some (.int .i64 2) := fun wx x => ⟨(BO6.mod x (fun h => h)).cell 0, (BR6.mod x (fun h => h)).cell 1⟩
  have r0 : Ext w6 w6.drew := (Mod.refl _ w6).drew
  go_upto_region 7 with fail
  go_region_held3 (fun wx => wx.cell? ⟨ob, 0, none⟩ = some (.int .u8 66) ∧ wx.cell? ⟨rb, 1, none⟩ = some (.int .i64 2)) (first | exact hc _ r0) (first
    | (go_at_call 84; (with_reducible refine (opTag_any (k := 2) (by unfold isOp; omega)).mono ?_); rintro e wa ⟨rfl, rfl⟩))
  rename_i hHeld
  clear hHeld hc hand hnum
  obtain ⟨w7, hw7⟩ : ∃ x, x = w6.drew := ⟨_, rfl⟩
  rw [← hw7] at r0 ⊢
  clear hw7
  have BO7 := BO6.mod r0 (fun h => h)
  have BR7 := BR6.mod r0 (fun h => h)
  have B8 := B7.mod r0 (fun h => h)
  have z7 := ext_trans z6 r0
  have f0 := BR7.frozen 0
  have c0' : w7.cell? ⟨rb, 0, none⟩ = some (.int .i64 0) := BR7.cell 0
  go_upto_region 10 with fail
  obtain ⟨w8, hw8⟩ : ∃ x, x = w7.setCell ⟨rb, 0, none⟩ (.int .i64 1) := ⟨_, rfl⟩
  have x8 : Mod (fun k => k = rb) w7 w8 := by rw [hw8]; exact (Mod.refl (fun k => k = rb) w7).setCell (p := ⟨rb, 0, none⟩) (fun _ => rfl) _
  have BR8 : Blk w8 rb 84 #[.int .i64 1, .int .i64 2, .string ⟨#[]⟩, .string ⟨#[]⟩, .int .i64 0, .int .i64 0, .int .i64 0, .string ⟨#[]⟩, .string ⟨#[]⟩, .slice none 0 0, .slice none 0 0, .slice none 0 0, .slice none 0 0, .slice none 0 0, .string ⟨#[]⟩, .bool false, .bool false, .string ⟨#[]⟩, .string ⟨#[]⟩, .string ⟨#[]⟩, .int .i64 0] := by rw [hw8]; exact BR7.set_ 0 (.int .i64 1)
  have BO8 := BO7.mod x8 (fun h => hor h)
  have B9 := B8.mod x8 (fun h => hqr h.symm)
  have z8 := z7.trans x8 (fun _ _ h => h) (fun b hb h => by have : b = rb := h; omega)
  rw [← hw8]
  clear hw8 f0 c0' BR7 BO7 B8 x8 BO6 BR6 B7 z7 r0 z6
  have hcs : ∀ wx, Mod (fun k => k = q) w8 wx → wx.rangeAt rb 0 [.int .i64 1, .int .i64 2, .string ⟨#[]⟩, .string ⟨#[]⟩, .int .i64 0, .int .i64 0, .int .i64 0, .string ⟨#[]⟩, .string ⟨#[]⟩, .slice none 0 0, .slice none 0 0, .slice none 0 0, .slice none 0 0, .slice none 0 0, .string ⟨#[]⟩, .bool false, .bool false, .string ⟨#[]⟩, .string ⟨#[]⟩, .string ⟨#[]⟩, .int .i64 0] ∧ wx.cell? ⟨ob, 1, none⟩ = some (.slice Az 0 cz) ∧ wx.cell? ⟨rb, 1, none⟩ = some (.int .i64 2) := fun wx x => ⟨rowAt (l := [.int .i64 1, .int .i64 2, .string ⟨#[]⟩, .string ⟨#[]⟩, .int .i64 0, .int .i64 0, .int .i64 0, .string ⟨#[]⟩, .string ⟨#[]⟩, .slice none 0 0, .slice none 0 0, .slice none 0 0, .slice none 0 0, .slice none 0 0, .string ⟨#[]⟩, .bool false, .bool false, .string ⟨#[]⟩, .string ⟨#[]⟩, .string ⟨#[]⟩, .int .i64 0]) (BR8.mod x (fun h => hqr h)), (BO8.mod x (fun h => hqo h)).cell 1, (BR8.mod x (fun h => hqr h)).cell 1⟩
  have m0 : Mod (fun k => k = q) w8 w8.drew := (Mod.refl _ w8).drew
  have e0 : Ext w8 w8.drew := (Mod.refl _ w8).drew
  have B10 := B9.mod e0 (fun h => h)
  have m1 : Mod (fun k => k = q) w8 (w8.drew.setRow q #[.int .i64 1, .int .i64 2, .string ⟨#[]⟩, .string ⟨#[]⟩, .int .i64 0, .int .i64 0, .int .i64 0, .string ⟨#[]⟩, .string ⟨#[]⟩, .slice none 0 0, .slice none 0 0, .slice none 0 0, .slice none 0 0, .slice none 0 0, .string ⟨#[]⟩, .bool false, .bool false, .string ⟨#[]⟩, .string ⟨#[]⟩, .string ⟨#[]⟩, .int .i64 0]) := m0.setRow (fun _ => rfl) _
  refine wp_region_held_drew (S := fun wx => wx.rangeAt rb 0 [.int .i64 1, .int .i64 2, .string ⟨#[]⟩, .string ⟨#[]⟩, .int .i64 0, .int .i64 0, .int .i64 0, .string ⟨#[]⟩, .string ⟨#[]⟩, .slice none 0 0, .slice none 0 0, .slice none 0 0, .slice none 0 0, .slice none 0 0, .string ⟨#[]⟩, .bool false, .bool false, .string ⟨#[]⟩, .string ⟨#[]⟩, .string ⟨#[]⟩, .int .i64 0] ∧ wx.cell? ⟨ob, 1, none⟩ = some (.slice Az 0 cz) ∧ wx.cell? ⟨rb, 1, none⟩ = some (.int .i64 2)) (by kernel_rfl) (hcs _ m0) (fun hH => ?_)
  (refine wpAnyH_take (i := 1) (oi := ⟨_, _, _, _, _, _⟩) (v := ?_) rfl (by kernel_rfl) (by kernel_rfl) (by kernel_rfl) (fun _ _ _ h => h) (Or.inl ⟨by kernel_rfl, ?_⟩) hH ?_; rotate_left; focus (intro wx hSw; obtain ⟨hS0, hS1, hS2⟩ := hSw; go_simp; try with_reducible rfl)); try simp only [Act.put, List.setIfInBounds_toArray, List.set_cons_zero, List.set_cons_succ]; try simp only [List.getElem_toArray, List.getElem_cons_succ, List.getElem_cons_zero]
  (refine wpAnyH_take (i := 2) (oi := ⟨_, _, _, _, _, _⟩) (v := ?_) rfl (by kernel_rfl) (by kernel_rfl) (by kernel_rfl) (fun _ _ _ h => h) (Or.inl ⟨by kernel_rfl, ?_⟩) hH ?_; rotate_left; focus (intro wx hSw; obtain ⟨hS0, hS1, hS2⟩ := hSw; go_simp; try with_reducible rfl)); try simp only [Act.put, List.setIfInBounds_toArray, List.set_cons_zero, List.set_cons_succ]; try simp only [List.getElem_toArray, List.getElem_cons_succ, List.getElem_cons_zero]
  (refine wpAnyH_take (i := 0) (oi := ⟨_, _, _, _, _, _⟩) (v := .agg #[.int .i64 1, .int .i64 2, .string ⟨#[]⟩, .string ⟨#[]⟩, .int .i64 0, .int .i64 0, .int .i64 0, .string ⟨#[]⟩, .string ⟨#[]⟩, .slice none 0 0, .slice none 0 0, .slice none 0 0, .slice none 0 0, .slice none 0 0, .string ⟨#[]⟩, .bool false, .bool false, .string ⟨#[]⟩, .string ⟨#[]⟩, .string ⟨#[]⟩, .int .i64 0]) rfl (by kernel_rfl) (by kernel_rfl) (by kernel_rfl) (fun _ _ _ h => h) (yieldsIf_load_mid (by rfl) 84 (.tmp 7) rfl rb 0 rfl [.int .i64 1, .int .i64 2, .string ⟨#[]⟩, .string ⟨#[]⟩, .int .i64 0, .int .i64 0, .int .i64 0, .string ⟨#[]⟩, .string ⟨#[]⟩, .slice none 0 0, .slice none 0 0, .slice none 0 0, .slice none 0 0, .slice none 0 0, .string ⟨#[]⟩, .bool false, .bool false, .string ⟨#[]⟩, .string ⟨#[]⟩, .string ⟨#[]⟩, .int .i64 0] _ (fun _ h => h.1) Try.underlying84 rfl (by kernel_rfl)) hH ?_); try simp only [Act.put, List.setIfInBounds_toArray, List.set_cons_zero, List.set_cons_succ]; try simp only [List.getElem_toArray, List.getElem_cons_succ, List.getElem_cons_zero]
  (refine wpAnyH_ready (rs := [3]) (by kernel_rfl) (by simp) ?_; refine AllReadyH.cons rfl (fun K' hK => ?_) AllReadyH.nil); go_simp
  refine (oper2_any (hcs _ m0).2.2).mono ?_
  rintro e wz ⟨rfl, rfl⟩
  (go_wp2_with fail; refine hK.out _ _ (hcs _ m0) (fun hH => ?_); clear hK K'; try simp only [Act.put, List.setIfInBounds_toArray, List.set_cons_zero, List.set_cons_succ]; try simp only [List.getElem_toArray, List.getElem_cons_succ, List.getElem_cons_zero])
  (refine wpAnyH_ready (rs := [4]) (by kernel_rfl) (by simp) ?_; refine AllReadyH.cons rfl (fun K' hK => ?_) AllReadyH.nil)
  refine (if_pos (by rfl)).mpr ?_
  refine wp_store_row 84 (.tmp 2) (.tmp 75) rfl q #[.int .i64 1, .int .i64 2, .string ⟨#[]⟩, .string ⟨#[]⟩, .int .i64 0, .int .i64 0, .int .i64 0, .string ⟨#[]⟩, .string ⟨#[]⟩, .slice none 0 0, .slice none 0 0, .slice none 0 0, .slice none 0 0, .slice none 0 0, .string ⟨#[]⟩, .bool false, .bool false, .string ⟨#[]⟩, .string ⟨#[]⟩, .string ⟨#[]⟩, .int .i64 0] rfl rfl _ _ B10 size21 rfl (by simp [Value.oneCell']) ?_
  (refine hK.out _ _ (hcs _ m1) (fun hH => ?_); clear hK K'; try simp only [Act.put, List.setIfInBounds_toArray]; try simp only [List.getElem_toArray, List.getElem_cons_succ, List.getElem_cons_zero])
  (refine wpAnyH_take (i := 5) (oi := ⟨_, _, _, _, _, _⟩) (v := ?_) rfl (by kernel_rfl) (by kernel_rfl) (by kernel_rfl) (fun _ _ _ h => h) (Or.inl ⟨by kernel_rfl, ?_⟩) hH ?_; rotate_left; focus (intro wx hSw; obtain ⟨hS0, hS1, hS2⟩ := hSw; go_simp; try with_reducible rfl)); try simp only [Act.put, List.setIfInBounds_toArray, List.set_cons_zero, List.set_cons_succ]; try simp only [List.getElem_toArray, List.getElem_cons_succ, List.getElem_cons_zero]
  refine wpAnyH_done (by kernel_rfl) ?_ _
  go_wp2_with fail
  refine bodyPost_ret (results_cell_row2 Try.results72 _ _ _ _ _ _ _ rfl (B10.setRow #[.int .i64 1, .int .i64 2, .string ⟨#[]⟩, .string ⟨#[]⟩, .int .i64 0, .int .i64 0, .int .i64 0, .string ⟨#[]⟩, .string ⟨#[]⟩, .slice none 0 0, .slice none 0 0, .slice none 0 0, .slice none 0 0, .slice none 0 0, .string ⟨#[]⟩, .bool false, .bool false, .string ⟨#[]⟩, .string ⟨#[]⟩, .string ⟨#[]⟩, .int .i64 0]) Try.underlying84 rfl (by exact size21)) rfl ?_
  exact ⟨rfl, (ext_trans z8 e0).setRow (fun h => absurd h hqn) _⟩
end Go.Proofs.Ytoockogceobfgaa
namespace Go.Proofs.Ytoockogceobfgaa
open Go.RowKit
set_option maxRecDepth 100000

set_option maxHeartbeats 8000000 in
theorem eqS16_any {w : World} {S S' : Nat → Prop} {v v' : Value} {L M : List (List UInt8)} (h : Ss w S v L) (h' : Ss w S' v' M) :
    Calls Try.prog 60 #[v, v'] w fun e w' => e = .returned (.bool (decide (L = M))) ∧ Ext w w' := by
  obtain ⟨A, c, rfl, h1, h2, h3, h4⟩ := h.open_
  obtain ⟨B, d, rfl, j1, j2, j3, j4⟩ := h'.open_
  by_cases hl : L.length = M.length
  case neg =>
    have hb : ((L.length : Int) != (M.length : Int)) = true := by rw [bne_iff_ne]; omega
    go_enter Try.func60, Try.ntmps60
    go_wp2_with fail
    go_ret
    exact ⟨by rw [dfalse (fun h => hl (by rw [h]))]; rfl, Mod.refl _ _⟩
  have hb : ((L.length : Int) != (M.length : Int)) = false := by rw [bne_eq_false_iff_eq]; omega
  replace hl := Lib.hid hl
  go_enter Try.func60, Try.ntmps60
  go_wp2_with fail
  go_loopw [13] (fun i wr => ∃ k : Nat, k ≤ L.length ∧ i = .int .i64 k ∧ Hid (L.take k = M.take k) ∧ Ext w wr) (fun i _ => L.length - (intOf i).toNat)
  case atStart => exact ⟨0, Nat.zero_le _, rfl, Lib.hid (by simp), Mod.refl _ _⟩
  case round =>
    obtain ⟨k, hk, rfl, hs, q3⟩ := hrel
    by_cases hlt : k < L.length
    case neg =>
      have hbl : decide ((k : Int) < (L.length : Int)) = false := dfalse (by omega)
      have hres : L = M := by
        have := hs.out
        rwa [List.take_of_length_le (by omega), List.take_of_length_le (by have := hl.out; omega)] at this
      replace hres := Lib.hid hres
      go_wp2_with fail
      go_ret
      exact ⟨by rw [dtrue hres.out]; rfl, q3⟩
    have hbl : decide ((k : Int) < (L.length : Int)) = true := dtrue (by omega)
    have hlm : k < M.length := by have := hl.out; omega
    obtain ⟨ad, hA, hS, c0⟩ := (Cells.mod h4 q3 (fun _ _ _ h => h)).at_ hlt
    subst hA
    obtain ⟨bd, hB, hT, d0⟩ := (Cells.mod j4 q3 (fun _ _ _ h => h)).at_ hlm
    subst hB
    have hsn : L.take (k + 1) = M.take (k + 1) ↔ L[k] = M[k] := by
      rw [List.take_succ_eq_append_getElem hlt, List.take_succ_eq_append_getElem hlm, hs.out]
      exact ⟨fun h => List.singleton_inj.1 (List.append_cancel_left h), fun h => by rw [h]⟩
    have hno : L[k] ≠ M[k] → L ≠ M := fun hn he => hn (by subst he; rfl)
    have hi0 : (0 : Int) ≤ (k : Int) := by omega
    have hi1 : (k : Int) < (L.length : Int) := by omega
    have hi2 : (k : Int) < (M.length : Int) := by omega
    generalize L[k] = x at *
    generalize M[k] = y at *
    have hdw : ∀ m, Ext w (wr.drewN m) := fun m => q3.drewN m
    cases hxy : (x == y)
    case true =>
      have hxn : (x != y) = false := by rw [bne, hxy]; rfl
      have hs2 := Lib.hid (hsn.2 (by rw [beq_iff_eq] at hxy; exact hxy))
      clear hsn hno
      go_wp2_with fail
      go_quiet (fail)
      go_wp2_with fail
      exact ⟨⟨k + 1, by omega, by go_num, hs2, hdw _⟩, by simp [intOf] <;> omega⟩
    have hxn : (x != y) = true := by rw [bne, hxy]; rfl
    have hno2 := Lib.hid (hno (by rw [beq_eq_false_iff_ne] at hxy; exact hxy))
    clear hsn hno
    go_wp2_with fail
    go_quiet (fail)
    go_wp2_with fail
    go_ret
    exact ⟨by rw [dfalse hno2.out]; rfl, hdw _⟩


/-- What the program's Same says. -/
def SamePI (n : Nat) : Prop := ∀ {w : World} {F G : Fi} {vs vk us uk : Value}, FilN n w F vs vk → FilN n w G us uk →
  Calls Try.prog 96 #[filV F vs vk, filV G us uk] w fun e w' => e = .returned (.bool (eqN n F G)) ∧ Ext w w'
set_option maxHeartbeats 32000000 in
theorem eqK_any {n : Nat} (ih : SamePI n) {w : World} {F G : Fi} {vs vk us uk : Value} (h : FilN (n + 1) w F vs vk) (h' : FilN (n + 1) w G us uk) :
    Calls Try.prog 109 #[vk, uk, .func (.func 96) #[] #[]] w fun e w' => e = .returned (.bool (decide (F.kids.length = G.kids.length) && (F.kids.zip G.kids).all (fun x => eqN n x.1 x.2))) ∧ Ext w w' := by
  obtain ⟨hFB, -, -, A, ca, ek, hop⟩ := h.open_
  obtain ⟨hGB, -, -, B, cb, fk, hoq⟩ := h'.open_
  have hkl := hFB.kl
  have hkl2 := hGB.kl
  obtain ⟨K, hKs⟩ : ∃ T, T = F.kids := ⟨_, rfl⟩
  obtain ⟨L, hLs⟩ : ∃ T, T = G.kids := ⟨_, rfl⟩
  rw [← hKs, ← hLs]
  rw [← hKs] at hkl ek hop
  rw [← hLs] at hkl2 fk hoq
  obtain ⟨R, hR⟩ : ∃ R, R = (decide (K.length = L.length) && (K.zip L).all fun x => eqN n x.fst x.snd) := ⟨_, rfl⟩
  rw [← hR]
  obtain ⟨q, hq⟩ : ∃ m, m = K.length := ⟨_, rfl⟩
  obtain ⟨q', hq'⟩ : ∃ m, m = L.length := ⟨_, rfl⟩
  rw [← hq] at ek hkl hR
  rw [← hq'] at fk hkl2 hR
  subst ek fk
  replace hq := Lib.hid hq
  replace hq' := Lib.hid hq'
  clear h h' hFB hGB hKs hLs
  by_cases hqq : q = q'
  rotate_left
  · have hr : Hid (R = false) := Lib.hid (by rw [hR, dfalse hqq]; rfl)
    have hqb : ((q : Int) != (q' : Int)) = true := bne_iff_ne.2 (by omega)
    clear hR hop hoq hqq
    go_enter Try.func109, Try.ntmps109
    go_wp2_with fail
    go_ret
    exact ⟨by rw [hr.out]; rfl, Mod.refl _ _⟩
  have hr : R = (K.zip L).all fun x => eqN n x.fst x.snd := by rw [hR, dtrue hqq]; rfl
  replace hr := Lib.hid hr
  subst hqq
  have hqb : ((q : Int) != (q : Int)) = false := bne_self_eq_false _
  clear hR
  go_enter Try.func109, Try.ntmps109
  go_wp2_with fail
  go_loopw [17] (fun i wr => ∃ k : Nat, k ≤ q ∧ i = .int .i64 k ∧ Hid (((K.take k).zip (L.take k)).all (fun x => eqN n x.1 x.2) = true) ∧ Ext w wr) (fun i _ => q - (intOf i).toNat)
  case atStart => exact ⟨0, Nat.zero_le _, rfl, Lib.hid (by simp), Mod.refl _ _⟩
  case round =>
    clear hqb
    obtain ⟨k, hkq, rfl, hal, hx⟩ := hrel
    by_cases hlt : k < q
    case neg =>
      have hbl : decide ((k : Int) < (q : Int)) = false := dfalse (by omega)
      have hbn : decide (k < q) = false := dfalse (by omega)
      have hr2 : Hid (R = true) := Lib.hid (by
        have h1 := hal.out
        rw [List.take_of_length_le (by have := hq.out; omega), List.take_of_length_le (by have := hq'.out; omega)] at h1
        rw [hr.out, h1])
      clear hal hr hop hoq
      go_wp2_with fail
      go_ret
      exact ⟨by rw [hr2.out]; rfl, hx⟩
    have hbl : decide ((k : Int) < (q : Int)) = true := dtrue (by omega)
    have hbn : decide (k < q) = true := dtrue (by omega)
    have hi0 : (0 : Int) ≤ (k : Int) := by omega
    have hi1 : (k : Int) < (q : Int) := by omega
    have hkK : k < K.length := by have := hq.out; omega
    have hkL : k < L.length := by have := hq'.out; omega
    obtain ⟨ag, ys, yk, e2, a0, a1, a2, a3, a4, hF⟩ := hop k hkK
    obtain ⟨bg, zs, zk, e3, b0, b1, b2, b3, b4, hG⟩ := hoq k hkL
    subst e2 e3
    have hzn := zip_next (n := n) hkK hkL
    have hzo := zip_no (n := n) hkK hkL
    have hss := hF.shape
    have hsz := hG.shape
    generalize K[k] = xF at *
    generalize L[k] = xG at *
    obtain ⟨⟨A3, m3, c3, rfl⟩, A4, m4, c4, rfl⟩ := hss
    obtain ⟨⟨A5, m5, c5, rfl⟩, A6, m6, c6, rfl⟩ := hsz
    replace a0 := ext_cell hx a0
    replace a1 := ext_cell hx a1
    replace a2 := ext_cell hx a2
    replace a3 := ext_cell hx a3
    replace a4 := ext_cell hx a4
    obtain ⟨wa, hwa⟩ : ∃ y7 : World, y7 = wr.alloc (.cells #[.int .i64 xF.kind, sv xF.typ, sv xF.val, .slice A3 m3 c3, .slice A4 m4 c4] 81) := ⟨_, rfl⟩
    obtain ⟨ga, hga⟩ : ∃ y8, y8 = wr.heap.size := ⟨_, rfl⟩
    have xa : Ext wr wa := by rw [hwa]; exact (Mod.refl _ wr).alloc _
    have BA : Blk wa ga 81 #[.int .i64 xF.kind, sv xF.typ, sv xF.val, .slice A3 m3 c3, .slice A4 m4 c4] := by rw [hwa, hga]; exact Blk.new wr _ _
    replace b0 := ext_cell (ext_trans hx xa) b0
    replace b1 := ext_cell (ext_trans hx xa) b1
    replace b2 := ext_cell (ext_trans hx xa) b2
    replace b3 := ext_cell (ext_trans hx xa) b3
    replace b4 := ext_cell (ext_trans hx xa) b4
    obtain ⟨wb, hwb⟩ : ∃ y7 : World, y7 = wa.alloc (.cells #[.int .i64 xG.kind, sv xG.typ, sv xG.val, .slice A5 m5 c5, .slice A6 m6 c6] 81) := ⟨_, rfl⟩
    obtain ⟨gb, hgb⟩ : ∃ y8, y8 = wa.heap.size := ⟨_, rfl⟩
    have xb : Ext wa wb := by rw [hwb]; exact (Mod.refl _ wa).alloc _
    have BB : Blk wb gb 81 #[.int .i64 xG.kind, sv xG.typ, sv xG.val, .slice A5 m5 c5, .slice A6 m6 c6] := by rw [hwb, hgb]; exact Blk.new wa _ _
    obtain ⟨-, p0, p1, p2, p3, p4⟩ := (BA.mod xb (fun h => h)).five
    obtain ⟨-, o0, o1, o2, o3, o4⟩ := BB.five
    have hxb := ext_trans hx (ext_trans xa xb)
    have hcall := ih (hF.ext hxb) (hG.ext hxb)
    replace hwa := Lib.hid hwa
    replace hga := Lib.hid hga
    replace hwb := Lib.hid hwb
    replace hgb := Lib.hid hgb
    clear hF hG xa xb BA BB hop hoq hkK hkL
    cases hqv : eqN n xF xG
    · have hr2 : Hid (R = false) := Lib.hid (by rw [hr.out, hzo hqv])
      rw [hqv] at hcall
      replace hcall := Lib.hid hcall
      clear hzn hzo hal hr hqv
      go_upto_region 6 with fail
      rw [← hwa.out, ← hga.out]
      clear hwa hga a0 a1 a2 a3 a4 hx
      go_upto_region 7 with fail
      rw [← hwb.out, ← hgb.out]
      clear hwb hgb b0 b1 b2 b3 b4
      go_wp2_with fail
      refine hcall.out.mono ?_
      rintro e w3 ⟨rfl, x3⟩
      go_wp2_with fail
      go_ret
      exact ⟨by rw [hr2.out]; rfl, ext_trans hxb x3⟩
    · have hal2 := Lib.hid (show ((K.take (k + 1)).zip (L.take (k + 1))).all (fun x => eqN n x.1 x.2) = true by rw [hzn, hal.out, hqv]; rfl)
      rw [hqv] at hcall
      replace hcall := Lib.hid hcall
      clear hzn hzo hal hr hqv
      go_upto_region 6 with fail
      rw [← hwa.out, ← hga.out]
      clear hwa hga a0 a1 a2 a3 a4 hx
      go_upto_region 7 with fail
      rw [← hwb.out, ← hgb.out]
      clear hwb hgb b0 b1 b2 b3 b4
      go_wp2_with fail
      refine hcall.out.mono ?_
      rintro e w3 ⟨rfl, x3⟩
      have x4 := ext_trans hxb x3
      clear hxb x3
      go_wp2_with fail
      exact ⟨⟨k + 1, by omega, by go_num, hal2, x4⟩, by simp [intOf] <;> omega⟩
set_option maxHeartbeats 32000000 in
theorem fsame_step {n : Nat} (ih : SamePI n) : SamePI (n + 1) := by
  intro w F G vs vk us uk h h'
  obtain ⟨R, hR⟩ : ∃ R, R = eqN (n + 1) F G := ⟨_, rfl⟩
  rw [← hR]
  rw [eqN_succ] at hR
  obtain ⟨-, -, hS, -⟩ := h.open_
  obtain ⟨-, -, hT, -⟩ := h'.open_
  obtain ⟨⟨As, m, cs, rfl⟩, A, q, ca, rfl⟩ := h.shape
  obtain ⟨⟨Bs', m', ds, rfl⟩, B, q', cb, rfl⟩ := h'.shape
  show Calls Try.prog 96 #[.agg #[.int .i64 F.kind, sv F.typ, sv F.val, .slice As m cs, .slice A q ca], .agg #[.int .i64 G.kind, sv G.typ, sv G.val, .slice Bs' m' ds, .slice B q' cb]] w _
  obtain ⟨w1, hw1⟩ : ∃ y7 : World, y7 = (w.alloc (.cells #[.int .i64 F.kind, sv F.typ, sv F.val, .slice As m cs, .slice A q ca] 81)).alloc (.cells #[.int .i64 G.kind, sv G.typ, sv G.val, .slice Bs' m' ds, .slice B q' cb] 81) := ⟨_, rfl⟩
  obtain ⟨p, hp⟩ : ∃ y8, y8 = w.heap.size := ⟨_, rfl⟩
  have x1 : Ext w w1 := by rw [hw1]; exact ((Mod.refl _ w).alloc _).alloc _
  have BP : Blk w1 p 81 #[.int .i64 F.kind, sv F.typ, sv F.val, .slice As m cs, .slice A q ca] := by rw [hw1, hp]; exact (Blk.new w _ _).alloc _
  have BQ : Blk w1 (p + 1) 81 #[.int .i64 G.kind, sv G.typ, sv G.val, .slice Bs' m' ds, .slice B q' cb] := by
    rw [hw1, hp]
    have := Blk.new (w.alloc (.cells #[.int .i64 F.kind, sv F.typ, sv F.val, .slice As m cs, .slice A q ca] 81)) 81 #[.int .i64 G.kind, sv G.typ, sv G.val, .slice Bs' m' ds, .slice B q' cb]
    simpa using this
  have hcc : ∀ {wx : World}, Ext w1 wx → wx.cell? ⟨p, 4, none⟩ = some (.slice A q ca) ∧ wx.cell? ⟨p + 1, 4, none⟩ = some (.slice B q' cb) := fun x => ⟨(BP.mod x (fun h => h)).cell 4, (BQ.mod x (fun h => h)).cell 4⟩
  obtain ⟨-, p0, p1, p2, p3, p4⟩ := BP.five
  obtain ⟨-, o0, o1, o2, o3, o4⟩ := BQ.five
  have htx := eqS16_any (Sl.ext hS x1) (Sl.ext hT x1)
  have hkk := fun {wx : World} (x : Ext w wx) => Lib.hid (eqK_any ih (h.ext x) (h'.ext x))
  clear h h' hS hT
  obtain ⟨D, hD⟩ : ∃ D, D = (decide (F.kids.length = G.kids.length) && (F.kids.zip G.kids).all (fun x => eqN n x.1 x.2)) := ⟨_, rfl⟩
  rw [← hD] at hkk hR
  clear hD
  obtain ⟨X, hX⟩ : ∃ X, X = decide (F.subs = G.subs) := ⟨_, rfl⟩
  rw [← hX] at htx hR
  clear hX
  generalize F.kind = kd at *
  generalize F.typ = T at *
  generalize F.val = V at *
  generalize G.kind = kd' at *
  generalize G.typ = T' at *
  generalize G.val = V' at *
  replace hw1 := Lib.hid hw1
  replace hp := Lib.hid hp
  replace hR := Lib.hid hR
  replace htx := Lib.hid htx
  clear BP BQ
  go_enter Try.func96, Try.ntmps96
  go_upto_region 1 with fail
  rw [← hw1.out, ← hp.out]
  clear hw1 hp
  cases hk : (kd == kd')
  · have hr : Hid (R = false) := Lib.hid (by rw [hR.out, hk]; rfl)
    clear hR htx hkk
    go_wp2_with fail
    go_ret
    exact ⟨by rw [hr.out]; rfl, x1⟩
  cases hT : (T == T')
  · have hr : Hid (R = false) := Lib.hid (by rw [hR.out, hk, hT]; rfl)
    clear hR htx hkk
    go_wp2_with fail
    go_ret
    exact ⟨by rw [hr.out]; rfl, x1⟩
  cases hV : (V == V')
  · have hr : Hid (R = false) := Lib.hid (by rw [hR.out, hk, hT, hV]; rfl)
    clear hR htx hkk
    go_wp2_with fail
    go_ret
    exact ⟨by rw [hr.out]; rfl, x1⟩
  have hR2 : R = (X && D) := by rw [hR.out, hk, hT, hV]; rfl
  replace hR2 := Lib.hid hR2
  clear hR
  cases X
  · have hr : Hid (R = false) := Lib.hid (by rw [hR2.out]; rfl)
    clear hR2 hkk
    go_wp2_with fail
    refine htx.out.mono ?_
    rintro e w2 ⟨rfl, x2⟩
    go_wp2_with fail
    go_ret
    exact ⟨by rw [hr.out]; rfl, ext_trans x1 x2⟩
  have hr : Hid (R = D) := Lib.hid (by rw [hR2.out]; rfl)
  clear hR2
  go_wp2_with fail
  refine htx.out.mono ?_
  rintro e w2 ⟨rfl, x2⟩
  obtain ⟨g4, g5⟩ := hcc x2
  have x3 := ext_trans x1 x2
  have hk2 := hkk x3
  clear p0 p1 p2 p3 p4 o0 o1 o2 o3 o4 htx hk hT hV hkk
  go_wp2_with fail
  refine hk2.out.mono ?_
  rintro e w4 ⟨rfl, x4⟩
  go_wp2_with fail
  go_ret
  exact ⟨by rw [hr.out]; rfl, ext_trans x3 x4⟩
theorem fsame_any : ∀ n, SamePI n
  | 0 => fun h => h.elim
  | n + 1 => fsame_step (fsame_any n)
end Go.Proofs.Ytoockogceobfgaa
namespace Go.Proofs.Ytoockogceobfgaa
open Go.RowKit
set_option maxRecDepth 100000

set_option maxHeartbeats 8000000 in
theorem atEq_any {w : World} {S S' : Nat → Prop} {x0 y0 : List UInt8} {v v' : Value} {L M : List (List UInt8)} (h : Ss w S v L) (h' : Ss w S' v' M) :
    Calls Try.prog 59 #[.agg #[sv x0, v], .agg #[sv y0, v']] w fun e w' => e = .returned (.bool (decide ((⟨x0, L⟩ : Att) = ⟨y0, M⟩))) ∧ Ext w w' := by
  obtain ⟨A1, n1, c1, rfl⟩ : ∃ A n c, v = .slice A n c := by obtain ⟨A, c, e, _⟩ := h.open_; exact ⟨A, _, c, e⟩
  obtain ⟨A2, n2, c2, rfl⟩ : ∃ A n c, v' = .slice A n c := by obtain ⟨A, c, e, _⟩ := h'.open_; exact ⟨A, _, c, e⟩
  obtain ⟨R, hR⟩ : ∃ R, R = decide ((⟨x0, L⟩ : Att) = ⟨y0, M⟩) := ⟨_, rfl⟩
  rw [← hR]
  have hR2 : R = (x0 == y0 && decide (L = M)) := by rw [hR, Bool.eq_iff_iff]; simp
  clear hR
  obtain ⟨x2a, x2b, x2⟩ := Blk.twoN w #[sv x0, .slice A1 n1 c1] #[sv y0, .slice A2 n2 c2] 55 55
  obtain ⟨w2, hw2⟩ : ∃ x, x = (w.alloc (.cells #[sv x0, .slice A1 n1 c1] 55)).alloc (.cells #[sv y0, .slice A2 n2 c2] 55) := ⟨_, rfl⟩
  rw [← hw2] at x2a x2b x2
  obtain ⟨q, hq⟩ : ∃ q, q = w.heap.size + 1 := ⟨_, rfl⟩
  obtain ⟨p, hp⟩ : ∃ p, p = w.heap.size := ⟨_, rfl⟩
  rw [← hq] at x2b
  rw [← hp] at x2a
  have a0 : w2.cell? ⟨p, 0, none⟩ = some (sv x0) := x2a.cell 0
  have b0 : w2.cell? ⟨q, 0, none⟩ = some (sv y0) := x2b.cell 0
  have a1 : w2.cell? ⟨p, 1, none⟩ = some (.slice A1 n1 c1) := x2a.cell 1
  have b1 : w2.cell? ⟨q, 1, none⟩ = some (.slice A2 n2 c2) := x2b.cell 1
  have hc := eqS16_any (Sl.ext h x2) (Sl.ext h' x2)
  obtain ⟨X, hX⟩ : ∃ X, X = decide (L = M) := ⟨_, rfl⟩
  rw [← hX] at hc hR2
  replace hc := Lib.hid hc
  replace hw2 := Lib.hid hw2
  replace hq := Lib.hid hq
  replace hp := Lib.hid hp
  replace hR2 := Lib.hid hR2
  clear h h' hX x2a x2b
  go_enter Try.func59, Try.ntmps59
  go_upto_region 1 with fail
  rw [← hw2.out, ← hq.out, ← hp.out]
  clear hw2 hq hp
  cases h0 : (x0 == y0)
  · have hr : Hid (R = false) := Lib.hid (by rw [hR2.out, h0]; rfl)
    clear hR2 hc
    go_wp2_with fail
    go_ret
    exact ⟨by rw [hr.out]; rfl, x2⟩
  have hr : Hid (R = X) := Lib.hid (by rw [hR2.out, h0]; rfl)
  clear hR2
  go_wp2_with fail
  refine hc.out.mono ?_
  rintro e w3 ⟨rfl, x3⟩
  go_wp2_with fail
  go_ret
  exact ⟨by rw [hr.out]; rfl, ext_trans x2 x3⟩
set_option maxHeartbeats 8000000 in
theorem mdEq_any {w : World} {S S' : Nat → Prop} {x0 y0 : Int} {x1 y1 : List UInt8} {v v' : Value} {L M : List (List UInt8)} (h : Ss w S v L) (h' : Ss w S' v' M) :
    Calls Try.prog 98 #[.agg #[.int .i64 x0, sv x1, v], .agg #[.int .i64 y0, sv y1, v']] w fun e w' => e = .returned (.bool (decide ((⟨x0, x1, L⟩ : Md) = ⟨y0, y1, M⟩))) ∧ Ext w w' := by
  obtain ⟨A1, n1, c1, rfl⟩ : ∃ A n c, v = .slice A n c := by obtain ⟨A, c, e, _⟩ := h.open_; exact ⟨A, _, c, e⟩
  obtain ⟨A2, n2, c2, rfl⟩ : ∃ A n c, v' = .slice A n c := by obtain ⟨A, c, e, _⟩ := h'.open_; exact ⟨A, _, c, e⟩
  obtain ⟨R, hR⟩ : ∃ R, R = decide ((⟨x0, x1, L⟩ : Md) = ⟨y0, y1, M⟩) := ⟨_, rfl⟩
  rw [← hR]
  have hR2 : R = (x0 == y0 && (x1 == y1 && decide (L = M))) := by rw [hR, Bool.eq_iff_iff]; simp
  clear hR
  obtain ⟨x2a, x2b, x2⟩ := Blk.twoN w #[.int .i64 x0, sv x1, .slice A1 n1 c1] #[.int .i64 y0, sv y1, .slice A2 n2 c2] 151 151
  obtain ⟨w2, hw2⟩ : ∃ x, x = (w.alloc (.cells #[.int .i64 x0, sv x1, .slice A1 n1 c1] 151)).alloc (.cells #[.int .i64 y0, sv y1, .slice A2 n2 c2] 151) := ⟨_, rfl⟩
  rw [← hw2] at x2a x2b x2
  obtain ⟨q, hq⟩ : ∃ q, q = w.heap.size + 1 := ⟨_, rfl⟩
  obtain ⟨p, hp⟩ : ∃ p, p = w.heap.size := ⟨_, rfl⟩
  rw [← hq] at x2b
  rw [← hp] at x2a
  have a0 : w2.cell? ⟨p, 0, none⟩ = some (.int .i64 x0) := x2a.cell 0
  have b0 : w2.cell? ⟨q, 0, none⟩ = some (.int .i64 y0) := x2b.cell 0
  have a1 : w2.cell? ⟨p, 1, none⟩ = some (sv x1) := x2a.cell 1
  have b1 : w2.cell? ⟨q, 1, none⟩ = some (sv y1) := x2b.cell 1
  have a2 : w2.cell? ⟨p, 2, none⟩ = some (.slice A1 n1 c1) := x2a.cell 2
  have b2 : w2.cell? ⟨q, 2, none⟩ = some (.slice A2 n2 c2) := x2b.cell 2
  have hc := eqS16_any (Sl.ext h x2) (Sl.ext h' x2)
  obtain ⟨X, hX⟩ : ∃ X, X = decide (L = M) := ⟨_, rfl⟩
  rw [← hX] at hc hR2
  replace hc := Lib.hid hc
  replace hw2 := Lib.hid hw2
  replace hq := Lib.hid hq
  replace hp := Lib.hid hp
  replace hR2 := Lib.hid hR2
  clear h h' hX x2a x2b
  go_enter Try.func98, Try.ntmps98
  go_upto_region 1 with fail
  rw [← hw2.out, ← hq.out, ← hp.out]
  clear hw2 hq hp
  cases h0 : (x0 == y0)
  · have hr : Hid (R = false) := Lib.hid (by rw [hR2.out, h0]; rfl)
    clear hR2 hc
    go_wp2_with fail
    go_ret
    exact ⟨by rw [hr.out]; rfl, x2⟩
  cases h1 : (x1 == y1)
  · have hr : Hid (R = false) := Lib.hid (by rw [hR2.out, h0, h1]; rfl)
    clear hR2 hc
    go_wp2_with fail
    go_ret
    exact ⟨by rw [hr.out]; rfl, x2⟩
  have hr : Hid (R = X) := Lib.hid (by rw [hR2.out, h0, h1]; rfl)
  clear hR2
  go_wp2_with fail
  refine hc.out.mono ?_
  rintro e w3 ⟨rfl, x3⟩
  go_wp2_with fail
  go_ret
  exact ⟨by rw [hr.out]; rfl, ext_trans x2 x3⟩
theorem Ats.bound {w : World} {v : Value} {L : List Att} (h : Ats w v L) : L.length ≤ 9223372036854775807 := by
  obtain ⟨rs, h1, h2, _⟩ := h
  obtain ⟨A, c, _, h3, h4, _⟩ := h1.open_ atc_len
  omega
set_option maxHeartbeats 16000000 in
theorem eqAts_any {w : World} {v u : Value} {K L : List Att} (h : Ats w v K) (h' : Ats w u L) :
    Calls Try.prog 58 #[v, u, .func (.func 59) #[] #[]] w fun e w' => e = .returned (.bool (decide (K = L))) ∧ Ext w w' := by
  have hkl := h.bound
  have hkl2 := h'.bound
  obtain ⟨A, ca, ek, -⟩ := h.open_
  obtain ⟨B, cb, fk, -⟩ := h'.open_
  have hop := fun {wx : World} (x : Ext w wx) => (h.ext x).open_
  have hoq := fun {wx : World} (x : Ext w wx) => (h'.ext x).open_
  obtain ⟨R, hR⟩ : ∃ R, R = decide (K = L) := ⟨_, rfl⟩
  rw [← hR]
  obtain ⟨q, hq⟩ : ∃ m, m = K.length := ⟨_, rfl⟩
  obtain ⟨q', hq'⟩ : ∃ m, m = L.length := ⟨_, rfl⟩
  rw [← hq] at ek hkl
  rw [← hq'] at fk hkl2
  subst ek fk
  have hRn : K ≠ L → R = false := fun g => by rw [hR]; exact decide_eq_false g
  have hRy : K = L → R = true := fun g => by rw [hR]; exact decide_eq_true g
  replace hq := Lib.hid hq
  replace hq' := Lib.hid hq'
  clear h h' hR
  by_cases hqq : q = q'
  rotate_left
  · have hr : Hid (R = false) := Lib.hid (hRn (fun g => hqq (by rw [hq.out, hq'.out, g])))
    have hqb : ((q : Int) != (q' : Int)) = true := bne_iff_ne.2 (by omega)
    clear hRn hRy hop hoq hqq
    go_enter Try.func58, Try.ntmps58
    go_wp2_with fail
    go_ret
    exact ⟨by rw [hr.out]; rfl, Mod.refl _ _⟩
  subst hqq
  have hqb : ((q : Int) != (q : Int)) = false := bne_self_eq_false _
  replace hRn := Lib.hid hRn
  replace hRy := Lib.hid hRy
  go_enter Try.func58, Try.ntmps58
  go_wp2_with fail
  go_loopw [17] (fun i wr => ∃ k : Nat, k ≤ q ∧ i = .int .i64 k ∧ Hid (K.take k = L.take k) ∧ Ext w wr) (fun i _ => q - (intOf i).toNat)
  case atStart => exact ⟨0, Nat.zero_le _, rfl, Lib.hid (by simp), Mod.refl _ _⟩
  case round =>
    clear hqb
    obtain ⟨k, hkq, rfl, hal, hx⟩ := hrel
    by_cases hlt : k < q
    case neg =>
      have hbl : decide ((k : Int) < (q : Int)) = false := dfalse (by omega)
      have hbn : decide (k < q) = false := dfalse (by omega)
      have hr2 : Hid (R = true) := Lib.hid (by
        have h1 := hal.out
        rw [List.take_of_length_le (by have := hq.out; omega), List.take_of_length_le (by have := hq'.out; omega)] at h1
        exact hRy.out h1)
      clear hal hRn hRy hop hoq
      go_wp2_with fail
      go_ret
      exact ⟨by rw [hr2.out]; rfl, hx⟩
    have hbl : decide ((k : Int) < (q : Int)) = true := dtrue (by omega)
    have hbn : decide (k < q) = true := dtrue (by omega)
    have hi0 : (0 : Int) ≤ (k : Int) := by omega
    have hi1 : (k : Int) < (q : Int) := by omega
    have hkK : k < K.length := by have := hq.out; omega
    have hkL : k < L.length := by have := hq'.out; omega
    obtain ⟨A', ca', g1, h5⟩ := hop hx
    rw [← hq.out] at g1
    injection g1 with g1 _ g3
    subst g1
    subst g3
    obtain ⟨ag, y1, e2, a0, a1, hF⟩ := h5 k hkK
    obtain ⟨B', cb', g1, h6⟩ := hoq hx
    rw [← hq'.out] at g1
    injection g1 with g1 _ g3
    subst g1
    subst g3
    obtain ⟨bg, y2, e3, b0, b1, hG⟩ := h6 k hkL
    subst e2 e3
    obtain ⟨A3, m3, c3, rfl⟩ : ∃ A n c, y1 = .slice A n c := by obtain ⟨A, c, e, _⟩ := hF.open_; exact ⟨A, _, c, e⟩
    obtain ⟨A5, m5, c5, rfl⟩ : ∃ A n c, y2 = .slice A n c := by obtain ⟨A, c, e, _⟩ := hG.open_; exact ⟨A, _, c, e⟩
    have hsn : K.take (k + 1) = L.take (k + 1) ↔ K[k] = L[k] := by
      rw [List.take_succ_eq_append_getElem hkK, List.take_succ_eq_append_getElem hkL, hal.out]
      exact ⟨fun h => List.singleton_inj.1 (List.append_cancel_left h), fun h => by rw [h]⟩
    have hno : K[k] ≠ L[k] → R = false := fun hn => hRn.out (fun he => hn (by subst he; rfl))
    generalize K[k] = xF at *
    generalize L[k] = xG at *
    obtain ⟨wa, hwa⟩ : ∃ y7 : World, y7 = wr.alloc (.cells #[sv xF.typ, .slice A3 m3 c3] 55) := ⟨_, rfl⟩
    obtain ⟨ga, hga⟩ : ∃ y8, y8 = wr.heap.size := ⟨_, rfl⟩
    have xa : Ext wr wa := by rw [hwa]; exact (Mod.refl _ wr).alloc _
    have BA : Blk wa ga 55 #[sv xF.typ, .slice A3 m3 c3] := by rw [hwa, hga]; exact Blk.new wr _ _
    replace b0 := ext_cell xa b0
    replace b1 := ext_cell xa b1
    obtain ⟨wb, hwb⟩ : ∃ y7 : World, y7 = wa.alloc (.cells #[sv xG.typ, .slice A5 m5 c5] 55) := ⟨_, rfl⟩
    obtain ⟨gb, hgb⟩ : ∃ y8, y8 = wa.heap.size := ⟨_, rfl⟩
    have xb : Ext wa wb := by rw [hwb]; exact (Mod.refl _ wa).alloc _
    have BB : Blk wb gb 55 #[sv xG.typ, .slice A5 m5 c5] := by rw [hwb, hgb]; exact Blk.new wa _ _
    have BA2 := BA.mod xb (fun h => h)
    have p0 : wb.cell? ⟨ga, 0, none⟩ = some (sv xF.typ) := BA2.cell 0
    have o0 : wb.cell? ⟨gb, 0, none⟩ = some (sv xG.typ) := BB.cell 0
    have p1 : wb.cell? ⟨ga, 1, none⟩ = some (.slice A3 m3 c3) := BA2.cell 1
    have o1 : wb.cell? ⟨gb, 1, none⟩ = some (.slice A5 m5 c5) := BB.cell 1
    have hxb := ext_trans hx (ext_trans xa xb)
    have hcall := atEq_any (x0 := xF.typ) (y0 := xG.typ) (Sl.ext hF (ext_trans xa xb)) (Sl.ext hG (ext_trans xa xb))
    rw [show ((Att.mk xF.typ xF.vals) = xF) from rfl, show ((Att.mk xG.typ xG.vals) = xG) from rfl] at hcall
    replace hwa := Lib.hid hwa
    replace hga := Lib.hid hga
    replace hwb := Lib.hid hwb
    replace hgb := Lib.hid hgb
    clear hF hG xa xb BA BB BA2 hop hoq hkK hkL h5 h6
    by_cases hqv : xF = xG
    · have hal2 := Lib.hid (hsn.2 hqv)
      rw [dtrue hqv] at hcall
      replace hcall := Lib.hid hcall
      clear hsn hno hal hRn hRy hqv
      go_upto_region 6 with fail
      rw [← hwa.out, ← hga.out]
      clear hwa hga a0 a1 hx
      go_upto_region 7 with fail
      rw [← hwb.out, ← hgb.out]
      clear hwb hgb b0 b1
      go_wp2_with fail
      refine hcall.out.mono ?_
      rintro e w3 ⟨rfl, x3⟩
      have x4 := ext_trans hxb x3
      clear hxb x3
      go_wp2_with fail
      exact ⟨⟨k + 1, by omega, by go_num, hal2, x4⟩, by simp [intOf] <;> omega⟩
    · have hr2 := Lib.hid (hno hqv)
      rw [dfalse hqv] at hcall
      replace hcall := Lib.hid hcall
      clear hsn hno hal hRn hRy hqv
      go_upto_region 6 with fail
      rw [← hwa.out, ← hga.out]
      clear hwa hga a0 a1 hx
      go_upto_region 7 with fail
      rw [← hwb.out, ← hgb.out]
      clear hwb hgb b0 b1
      go_wp2_with fail
      refine hcall.out.mono ?_
      rintro e w3 ⟨rfl, x3⟩
      go_wp2_with fail
      go_ret
      exact ⟨by rw [hr2.out]; rfl, ext_trans hxb x3⟩
theorem Mds.bound {w : World} {v : Value} {L : List Md} (h : Mds w v L) : L.length ≤ 9223372036854775807 := by
  obtain ⟨rs, h1, h2, _⟩ := h
  obtain ⟨A, c, _, h3, h4, _⟩ := h1.open_ mdc_len
  omega
set_option maxHeartbeats 16000000 in
theorem eqMds_any {w : World} {v u : Value} {K L : List Md} (h : Mds w v K) (h' : Mds w u L) :
    Calls Try.prog 97 #[v, u, .func (.func 98) #[] #[]] w fun e w' => e = .returned (.bool (decide (K = L))) ∧ Ext w w' := by
  have hkl := h.bound
  have hkl2 := h'.bound
  obtain ⟨A, ca, ek, -⟩ := h.open_
  obtain ⟨B, cb, fk, -⟩ := h'.open_
  have hop := fun {wx : World} (x : Ext w wx) => (h.ext x).open_
  have hoq := fun {wx : World} (x : Ext w wx) => (h'.ext x).open_
  obtain ⟨R, hR⟩ : ∃ R, R = decide (K = L) := ⟨_, rfl⟩
  rw [← hR]
  obtain ⟨q, hq⟩ : ∃ m, m = K.length := ⟨_, rfl⟩
  obtain ⟨q', hq'⟩ : ∃ m, m = L.length := ⟨_, rfl⟩
  rw [← hq] at ek hkl
  rw [← hq'] at fk hkl2
  subst ek fk
  have hRn : K ≠ L → R = false := fun g => by rw [hR]; exact decide_eq_false g
  have hRy : K = L → R = true := fun g => by rw [hR]; exact decide_eq_true g
  replace hq := Lib.hid hq
  replace hq' := Lib.hid hq'
  clear h h' hR
  by_cases hqq : q = q'
  rotate_left
  · have hr : Hid (R = false) := Lib.hid (hRn (fun g => hqq (by rw [hq.out, hq'.out, g])))
    have hqb : ((q : Int) != (q' : Int)) = true := bne_iff_ne.2 (by omega)
    clear hRn hRy hop hoq hqq
    go_enter Try.func97, Try.ntmps97
    go_wp2_with fail
    go_ret
    exact ⟨by rw [hr.out]; rfl, Mod.refl _ _⟩
  subst hqq
  have hqb : ((q : Int) != (q : Int)) = false := bne_self_eq_false _
  replace hRn := Lib.hid hRn
  replace hRy := Lib.hid hRy
  go_enter Try.func97, Try.ntmps97
  go_wp2_with fail
  go_loopw [17] (fun i wr => ∃ k : Nat, k ≤ q ∧ i = .int .i64 k ∧ Hid (K.take k = L.take k) ∧ Ext w wr) (fun i _ => q - (intOf i).toNat)
  case atStart => exact ⟨0, Nat.zero_le _, rfl, Lib.hid (by simp), Mod.refl _ _⟩
  case round =>
    clear hqb
    obtain ⟨k, hkq, rfl, hal, hx⟩ := hrel
    by_cases hlt : k < q
    case neg =>
      have hbl : decide ((k : Int) < (q : Int)) = false := dfalse (by omega)
      have hbn : decide (k < q) = false := dfalse (by omega)
      have hr2 : Hid (R = true) := Lib.hid (by
        have h1 := hal.out
        rw [List.take_of_length_le (by have := hq.out; omega), List.take_of_length_le (by have := hq'.out; omega)] at h1
        exact hRy.out h1)
      clear hal hRn hRy hop hoq
      go_wp2_with fail
      go_ret
      exact ⟨by rw [hr2.out]; rfl, hx⟩
    have hbl : decide ((k : Int) < (q : Int)) = true := dtrue (by omega)
    have hbn : decide (k < q) = true := dtrue (by omega)
    have hi0 : (0 : Int) ≤ (k : Int) := by omega
    have hi1 : (k : Int) < (q : Int) := by omega
    have hkK : k < K.length := by have := hq.out; omega
    have hkL : k < L.length := by have := hq'.out; omega
    obtain ⟨A', ca', g1, h5⟩ := hop hx
    rw [← hq.out] at g1
    injection g1 with g1 _ g3
    subst g1
    subst g3
    obtain ⟨ag, y1, e2, a0, a1, a2, hF⟩ := h5 k hkK
    obtain ⟨B', cb', g1, h6⟩ := hoq hx
    rw [← hq'.out] at g1
    injection g1 with g1 _ g3
    subst g1
    subst g3
    obtain ⟨bg, y2, e3, b0, b1, b2, hG⟩ := h6 k hkL
    subst e2 e3
    obtain ⟨A3, m3, c3, rfl⟩ : ∃ A n c, y1 = .slice A n c := by obtain ⟨A, c, e, _⟩ := hF.open_; exact ⟨A, _, c, e⟩
    obtain ⟨A5, m5, c5, rfl⟩ : ∃ A n c, y2 = .slice A n c := by obtain ⟨A, c, e, _⟩ := hG.open_; exact ⟨A, _, c, e⟩
    have hsn : K.take (k + 1) = L.take (k + 1) ↔ K[k] = L[k] := by
      rw [List.take_succ_eq_append_getElem hkK, List.take_succ_eq_append_getElem hkL, hal.out]
      exact ⟨fun h => List.singleton_inj.1 (List.append_cancel_left h), fun h => by rw [h]⟩
    have hno : K[k] ≠ L[k] → R = false := fun hn => hRn.out (fun he => hn (by subst he; rfl))
    generalize K[k] = xF at *
    generalize L[k] = xG at *
    obtain ⟨wa, hwa⟩ : ∃ y7 : World, y7 = wr.alloc (.cells #[.int .i64 xF.kind, sv xF.typ, .slice A3 m3 c3] 151) := ⟨_, rfl⟩
    obtain ⟨ga, hga⟩ : ∃ y8, y8 = wr.heap.size := ⟨_, rfl⟩
    have xa : Ext wr wa := by rw [hwa]; exact (Mod.refl _ wr).alloc _
    have BA : Blk wa ga 151 #[.int .i64 xF.kind, sv xF.typ, .slice A3 m3 c3] := by rw [hwa, hga]; exact Blk.new wr _ _
    replace b0 := ext_cell xa b0
    replace b1 := ext_cell xa b1
    replace b2 := ext_cell xa b2
    obtain ⟨wb, hwb⟩ : ∃ y7 : World, y7 = wa.alloc (.cells #[.int .i64 xG.kind, sv xG.typ, .slice A5 m5 c5] 151) := ⟨_, rfl⟩
    obtain ⟨gb, hgb⟩ : ∃ y8, y8 = wa.heap.size := ⟨_, rfl⟩
    have xb : Ext wa wb := by rw [hwb]; exact (Mod.refl _ wa).alloc _
    have BB : Blk wb gb 151 #[.int .i64 xG.kind, sv xG.typ, .slice A5 m5 c5] := by rw [hwb, hgb]; exact Blk.new wa _ _
    have BA2 := BA.mod xb (fun h => h)
    have p0 : wb.cell? ⟨ga, 0, none⟩ = some (.int .i64 xF.kind) := BA2.cell 0
    have o0 : wb.cell? ⟨gb, 0, none⟩ = some (.int .i64 xG.kind) := BB.cell 0
    have p1 : wb.cell? ⟨ga, 1, none⟩ = some (sv xF.typ) := BA2.cell 1
    have o1 : wb.cell? ⟨gb, 1, none⟩ = some (sv xG.typ) := BB.cell 1
    have p2 : wb.cell? ⟨ga, 2, none⟩ = some (.slice A3 m3 c3) := BA2.cell 2
    have o2 : wb.cell? ⟨gb, 2, none⟩ = some (.slice A5 m5 c5) := BB.cell 2
    have hxb := ext_trans hx (ext_trans xa xb)
    have hcall := mdEq_any (x0 := xF.kind) (y0 := xG.kind) (x1 := xF.typ) (y1 := xG.typ) (Sl.ext hF (ext_trans xa xb)) (Sl.ext hG (ext_trans xa xb))
    rw [show ((Md.mk xF.kind xF.typ xF.vals) = xF) from rfl, show ((Md.mk xG.kind xG.typ xG.vals) = xG) from rfl] at hcall
    replace hwa := Lib.hid hwa
    replace hga := Lib.hid hga
    replace hwb := Lib.hid hwb
    replace hgb := Lib.hid hgb
    clear hF hG xa xb BA BB BA2 hop hoq hkK hkL h5 h6
    by_cases hqv : xF = xG
    · have hal2 := Lib.hid (hsn.2 hqv)
      rw [dtrue hqv] at hcall
      replace hcall := Lib.hid hcall
      clear hsn hno hal hRn hRy hqv
      go_upto_region 6 with fail
      rw [← hwa.out, ← hga.out]
      clear hwa hga a0 a1 a2 hx
      go_upto_region 7 with fail
      rw [← hwb.out, ← hgb.out]
      clear hwb hgb b0 b1 b2
      go_wp2_with fail
      refine hcall.out.mono ?_
      rintro e w3 ⟨rfl, x3⟩
      have x4 := ext_trans hxb x3
      clear hxb x3
      go_wp2_with fail
      exact ⟨⟨k + 1, by omega, by go_num, hal2, x4⟩, by simp [intOf] <;> omega⟩
    · have hr2 := Lib.hid (hno hqv)
      rw [dfalse hqv] at hcall
      replace hcall := Lib.hid hcall
      clear hsn hno hal hRn hRy hqv
      go_upto_region 6 with fail
      rw [← hwa.out, ← hga.out]
      clear hwa hga a0 a1 a2 hx
      go_upto_region 7 with fail
      rw [← hwb.out, ← hgb.out]
      clear hwb hgb b0 b1 b2
      go_wp2_with fail
      refine hcall.out.mono ?_
      rintro e w3 ⟨rfl, x3⟩
      go_wp2_with fail
      go_ret
      exact ⟨by rw [hr2.out]; rfl, ext_trans hxb x3⟩
theorem sameAts_any {w : World} {v u : Value} {K L : List Att} (h : Ats w v K) (h' : Ats w u L) :
    Calls Try.prog 32 #[v, u] w fun e w' => e = .returned (.bool (decide (K = L))) ∧ Ext w w' := by
  obtain ⟨A1, n1, c1, rfl⟩ : ∃ A n c, v = .slice A n c := by obtain ⟨A, c, e, _⟩ := h.open_; exact ⟨A, _, c, e⟩
  obtain ⟨A2, n2, c2, rfl⟩ : ∃ A n c, u = .slice A n c := by obtain ⟨A, c, e, _⟩ := h'.open_; exact ⟨A, _, c, e⟩
  have hc := Lib.hid (eqAts_any h h')
  go_enter Try.func32, Try.ntmps32
  go_wp2_with fail
  refine hc.out.mono ?_
  rintro e w1 ⟨rfl, x1⟩
  go_wp2_with fail
  go_ret
  exact ⟨rfl, x1⟩
end Go.Proofs.Ytoockogceobfgaa
