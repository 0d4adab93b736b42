/- batch: rows; what the laws look at. -/
import Derived.Test.YtlfooppmdgddkaaCelI
namespace Go.Proofs.Ytlfooppmdgddkaa
open Go.RowKit Go.WideShapes Go.ChangeShapes
set_option maxRecDepth 100000

/-- A row. -/
structure Ro where
  key : List UInt8
  val : List UInt8
  del : Bool
instance : DecidableEq Ro := fun a b => decidable_of_iff (a.key = b.key ∧ a.val = b.val ∧ a.del = b.del) ⟨fun ⟨h1, h2, h3⟩ => by cases a; cases b; simp_all, fun h => by rw [h]; exact ⟨rfl, rfl, rfl⟩⟩
instance : Inhabited Ro := ⟨⟨[], [], false⟩⟩
abbrev rol (c : Ro) : List Value := [sv c.key, sv c.val, .bool c.del]
abbrev rar (c : Ro) : Array Value := #[sv c.key, sv c.val, .bool c.del]
theorem rol_len (c : Ro) : (rol c).length = 3 := rfl
theorem rol_ok (c : Ro) : ∀ u ∈ rol c, u.oneCell' = true := by
  intro u hu
  simp only [rol, List.mem_cons, List.not_mem_nil, or_false] at hu
  rcases hu with rfl | rfl | rfl <;> rfl
abbrev Rs (w : World) (S : Nat → Prop) (v : Value) (L : List Ro) : Prop := Rc rol 3 w S v L
abbrev OwnW (w : World) (v : Value) (L : List Ro) : Prop := OwnR rol 3 w 82 v L
theorem tyW : SliceTyK Try.prog 67 82 (.agg #[.string ⟨#[]⟩, .string ⟨#[]⟩, .bool false]) 3 40 := ⟨Try.underlying67, by kernel_rfl, rfl, by decide, by decide⟩
def WFits (c : Ro) : Prop := c.key.length ≤ 140737488351232 ∧ c.val.length ≤ 140737488351232
theorem Rs.at_ {w : World} {S : Nat → Prop} {A : Option Addr} {L : List Ro} (h : RcAt rol 3 w S A L) {i : Nat} (hi : i < L.length) :
    ∃ ad, A = some ad ∧ S ad.block ∧ w.cell? (ad.add (i * 3)) = some (sv L[i].key) ∧ w.cell? ⟨(ad.add (i * 3)).block, (ad.add (i * 3)).off + 1, none⟩ = some (sv L[i].val) ∧ w.cell? ⟨(ad.add (i * 3)).block, (ad.add (i * 3)).off + 2, none⟩ = some (.bool L[i].del) := by
  obtain ⟨ad, hA, hS, h0⟩ := h i 0 (sv L[i].key) hi (by omega) rfl
  obtain ⟨ad1, hA1, _, h1⟩ := h i 1 (sv L[i].val) hi (by omega) rfl
  obtain ⟨ad2, hA2, _, h2⟩ := h i 2 (.bool L[i].del) hi (by omega) rfl
  rw [hA] at hA1 hA2
  cases hA1
  cases hA2
  rw [add_next _ _ _ (by omega)] at h1 h2
  exact ⟨ad, hA, hS, h0, h1, h2⟩
theorem boxedW (w : World) (c : Ro) : (w.alloc (.cells (rar c) 82)).cell? ⟨w.heap.size, 0, none⟩ = some (sv c.key) ∧ (w.alloc (.cells (rar c) 82)).cell? ⟨w.heap.size, 1, none⟩ = some (sv c.val) ∧ (w.alloc (.cells (rar c) 82)).cell? ⟨w.heap.size, 2, none⟩ = some (.bool c.del) :=
  ⟨Blk.cell (Blk.new w _ _) 0, Blk.cell (Blk.new w _ _) 1, Blk.cell (Blk.new w _ _) 2⟩

theorem eqInW (w : World) (a b : Ro) : (Op.equalIn 10000 82 (.agg (rar a)) (.agg (rar b))).run Try.prog w = .ok (decide (a = b)) w := by
  rw [run_equalIn_agg w 9999 82 _ _ (by kernel_rfl) (by kernel_rfl)]
  simp only [Program.fieldsOf, Try.underlying82]
  obtain ⟨a1, a2, a3⟩ := a
  obtain ⟨b1, b2, b3⟩ := b
  have hd : decide ((⟨a1, a2, a3⟩ : Ro) = ⟨b1, b2, b3⟩) = (decide (a1 = b1) && (decide (a2 = b2) && decide (a3 = b3))) := by
    rw [Bool.eq_iff_iff]; simp
  rw [hd]
  by_cases h1 : a1 = b1 <;> by_cases h2 : a2 = b2 <;> by_cases h3 : a3 = b3 <;>
    simp [Op.eqFields, part, go_sem, run_equalIn_string w _ 9 _ _ Try.underlying9, run_equalIn_bool' w _ 4 _ _ Try.underlying4, h1, h2, h3]
theorem neqW (w : World) (a b : Ro) : (binOp .neq 82 (.agg (rar a)) (.agg (rar b))).run Try.prog w = .ok (.bool (!decide (a = b))) w := by
  rw [run_neq_struct, eqInW]; rfl
theorem guardW (w : World) (op : BinOp) (x y : Operand) (xs ys : Array Value) : (eqGuard op 82 x y (.agg xs) (.agg ys)).run Try.prog w = .ok () w :=
  run_eqGuard_agg w op _ x y xs ys (by kernel_rfl)

def wR (L : List Ro) : Nat := (L.map fun c => 1 + c.key.length + c.val.length).sum
theorem wR_cons (a : Ro) (L : List Ro) : wR (a :: L) = 1 + a.key.length + a.val.length + wR L := by simp [wR]
theorem wR_append (L M : List Ro) : wR (L ++ M) = wR L + wR M := by simp [wR]
theorem wR_snoc (L : List Ro) {k : Nat} (h : k < L.length) : wR (L.take (k + 1)) = wR (L.take k) + (1 + L[k].key.length + L[k].val.length) := by
  rw [List.take_succ_eq_append_getElem h, wR_append, wR_cons]; simp [wR]
theorem wR_take (L : List Ro) (k : Nat) : wR (L.take k) ≤ wR L := by
  have := wR_append (L.take k) (L.drop k)
  rw [List.take_append_drop] at this; omega
theorem wR_len (L : List Ro) : L.length ≤ wR L := by
  induction L with
  | nil => simp
  | cons a L ih => rw [wR_cons, List.length_cons]; omega
theorem wR_mem {L : List Ro} {a : Ro} (h : a ∈ L) : 1 + a.key.length + a.val.length ≤ wR L := by
  induction L with
  | nil => cases h
  | cons b L ih =>
    rw [wR_cons]
    rcases List.mem_cons.1 h with rfl | h
    · omega
    · have := ih h; omega
def MFits (L : List Ro) : Prop := (∀ c ∈ L, WFits c) ∧ L.length * 40 ≤ 140737488351232
theorem MFits.at_ {L : List Ro} (h : MFits L) {k : Nat} (hk : k < L.length) : L[k].key.length ≤ 140737488351232 ∧ L[k].val.length ≤ 140737488351232 := h.1 _ (List.getElem_mem _)
theorem mfits_of {L : List Ro} (h : wR L ≤ 1000000000) : MFits L := ⟨fun c hc => by have := wR_mem hc; exact ⟨by omega, by omega⟩, by have := wR_len L; omega⟩

set_option maxHeartbeats 4000000 in
theorem heavy10_any {w : World} {S : Nat → Prop} {v : Value} {L : List Ro} (h : Rs w S v L) (hf : MFits L) :
    Calls Try.prog 50 #[v] w fun e w' => ∃ q : Bool, e = .returned (.bool q) ∧ (q = false → wR L ≤ 40000 ∧ L.length ≤ 521) ∧ Ext w w' := by
  have hl := hf.2
  obtain ⟨A, c, rfl, h1, h2, h3, h4⟩ := h.open_ rol_len
  go_enter Try.func50, Try.ntmps50
  go_wp2_with fail
  go_loopw [3, 4] (fun n i wr => ∃ k : Nat, k ≤ L.length ∧ i = .int .i64 k ∧ n = .int .i64 (wR (L.take k) : Nat) ∧ Hid (wR (L.take k) ≤ 40000 ∧ k ≤ 521) ∧ Ext w wr) (fun _ i _ => L.length - (intOf i).toNat)
  case atStart => exact ⟨0, by omega, rfl, rfl, Lib.hid (by simp [wR]), Mod.refl _ _⟩
  case round =>
    obtain ⟨k, hk, rfl, rfl, hw0, hxr⟩ := hrel
    by_cases hlt : k < L.length
    · have hbl : decide ((k : Int) < (L.length : Int)) = true := dtrue (by omega)
      obtain ⟨ad, hA, hS, c0, c1, _⟩ := Rs.at_ (h4.ext hxr) hlt
      subst hA
      obtain ⟨k1, k2⟩ := hf.at_ hlt
      have hsn := wR_snoc L hlt
      obtain ⟨hw, hk2⟩ := hw0.out
      have hi0 : (0 : Int) ≤ (k : Int) := by omega
      have hi1 : (k : Int) < (L.length : Int) := by omega
      generalize L[k] = x at *
      generalize wR (L.take k) = n at *
      have hz1 := sv_size x.key
      have hz2 := sv_size x.val
      have hdw : ∀ m, Ext w (wr.drewN m) := fun m => hxr.drewN m
      by_cases hgt : 40000 < n + 1 + x.key.length + x.val.length
      · have hbg : decide ((40000 : Int) < (n : Int) + 1 + (x.key.length : Int) + (x.val.length : Int)) = true := dtrue (by omega)
        go_wp2_with fail
        go_quiet (fail)
        go_wp2_with fail
        go_ret
        exact ⟨true, rfl, by simp, hdw _⟩
      · have hbg : decide ((40000 : Int) < (n : Int) + 1 + (x.key.length : Int) + (x.val.length : Int)) = false := dfalse (by omega)
        by_cases hk3 : 520 < k
        · have hbk : decide ((520 : Int) < (k : Int)) = true := dtrue (by omega)
          replace hsn := Lib.hid hsn
          go_wp2_with fail
          go_quiet (fail)
          go_wp2_with fail
          go_ret
          exact ⟨true, rfl, by simp, hdw _⟩
        · have hbk : decide ((520 : Int) < (k : Int)) = false := dfalse (by omega)
          replace hsn := Lib.hid hsn
          go_wp2_with fail
          go_quiet (fail)
          go_wp2_with fail
          exact ⟨⟨k + 1, by omega, by go_num, by rw [hsn.out]; congr 1; omega, Lib.hid (by rw [hsn.out]; omega), hdw _⟩, by simp [intOf] <;> omega⟩
    · have hbl : decide ((k : Int) < (L.length : Int)) = false := dfalse (by omega)
      have hw2 : wR L ≤ 40000 ∧ L.length ≤ 521 := by
        have := hw0.out
        rw [List.take_of_length_le (by omega)] at this
        exact ⟨this.1, by omega⟩
      replace hw2 := Lib.hid hw2
      go_wp2_with fail
      go_ret
      exact ⟨false, rfl, fun _ => hw2.out, hxr⟩

set_option maxHeartbeats 4000000 in
theorem rows10_any {w : World} {S S' : Nat → Prop} {v v' : Value} {L M : List Ro} (h : Rs w S v L) (h' : Rs w S' v' M) :
    Calls Try.prog 60 #[v, v'] w fun e w' => e = .returned (.bool (decide (L = M))) ∧ Ext w w' := by
  obtain ⟨A, c, rfl, h1, h2, h3, h4⟩ := h.open_ rol_len
  obtain ⟨B, d, rfl, j1, j2, j3, j4⟩ := h'.open_ rol_len
  by_cases hl : L.length = M.length
  case neg =>
    have hb : ((L.length : Int) != (M.length : Int)) = true := by rw [bne_iff_ne]; omega
    go_enter Try.func60, Try.ntmps60
    go_wp2_with fail
    go_ret
    exact ⟨by rw [dfalse (fun h => hl (by rw [h]))]; rfl, Mod.refl _ _⟩
  have hb : ((L.length : Int) != (M.length : Int)) = false := by rw [bne_eq_false_iff_eq]; omega
  replace hl := Lib.hid hl
  go_enter Try.func60, Try.ntmps60
  go_wp2_with fail
  go_loopw [5] (fun i wr => ∃ k : Nat, k ≤ L.length ∧ i = .int .i64 k ∧ Hid (L.take k = M.take k) ∧ Ext w wr) (fun i _ => L.length - (intOf i).toNat)
  case atStart => exact ⟨0, Nat.zero_le _, rfl, Lib.hid (by simp), Mod.refl _ _⟩
  case round =>
    obtain ⟨k, hk, rfl, hs, q3⟩ := hrel
    by_cases hlt : k < L.length
    case neg =>
      have hbl : decide ((k : Int) < (L.length : Int)) = false := dfalse (by omega)
      have hres : L = M := by
        have := hs.out
        rwa [List.take_of_length_le (by omega), List.take_of_length_le (by have := hl.out; omega)] at this
      replace hres := Lib.hid hres
      go_wp2_with fail
      go_ret
      exact ⟨by rw [dtrue hres.out]; rfl, q3⟩
    have hbl : decide ((k : Int) < (L.length : Int)) = true := dtrue (by omega)
    have hlm : k < M.length := by have := hl.out; omega
    obtain ⟨ad, hA, hS, c0, c1, c2⟩ := Rs.at_ (h4.ext q3) hlt
    subst hA
    obtain ⟨bd, hB, hT, d0, d1, d2⟩ := Rs.at_ (j4.ext q3) hlm
    subst hB
    have hsn : L.take (k + 1) = M.take (k + 1) ↔ L[k] = M[k] := by
      rw [List.take_succ_eq_append_getElem hlt, List.take_succ_eq_append_getElem hlm, hs.out]
      exact ⟨fun h => List.singleton_inj.1 (List.append_cancel_left h), fun h => by rw [h]⟩
    have hno : L[k] ≠ M[k] → L ≠ M := fun hn he => hn (by subst he; rfl)
    have hi0 : (0 : Int) ≤ (k : Int) := by omega
    have hi1 : (k : Int) < (L.length : Int) := by omega
    have hi2 : (k : Int) < (M.length : Int) := by omega
    generalize L[k] = x at *
    generalize M[k] = y at *
    have hgu := fun wx a b => guardW wx .neq a b (rar x) (rar y)
    have hdw : ∀ m, Ext w (wr.drewN m) := fun m => q3.drewN m
    by_cases hxy : x = y
    · have hs2 := Lib.hid (hsn.2 hxy)
      have hne : ∀ wx, (binOp .neq 82 (.agg (rar x)) (.agg (rar y))).run Try.prog wx = .ok (.bool false) wx := fun wx => by rw [neqW, dtrue hxy]; rfl
      clear hsn hno hxy
      go_wp2_with fail
      go_quiet (fail)
      go_wp2_with fail
      exact ⟨⟨k + 1, by omega, by go_num, hs2, hdw _⟩, by simp [intOf] <;> omega⟩
    · have hne : ∀ wx, (binOp .neq 82 (.agg (rar x)) (.agg (rar y))).run Try.prog wx = .ok (.bool true) wx := fun wx => by rw [neqW, dfalse hxy]; rfl
      have hno2 := Lib.hid (hno hxy)
      clear hsn hno hxy
      go_wp2_with fail
      go_quiet (fail)
      go_wp2_with fail
      go_ret
      exact ⟨by rw [dfalse hno2.out]; rfl, hdw _⟩

section
variable {H : Type} {enc : TypeId × Value → H} {W : World} {base : Nat} {spare : Nat → Bool} {held : Bool} {v : Value} {d : DataW H} {p : List MemPlace}
theorem row_each (cs : List Value) (x : DataW H × List MemPlace) (n : Nat) (h : DataW.trod enc Try.prog W base spare held n 82 cs = some x) (hl : Light Try.prog 82 x.1) :
    ∃ c : Ro, cs = rol c ∧ WFits c := by
  obtain ⟨xs, m, _, rfl, hlen, hxl, hfi⟩ := DataW.trod_struct Try.underlying82 h
  have hc : Try.prog.cellsOf 82 = 3 := by kernel_rfl
  match xs, hxl, cs, hlen.trans hc with
  | [y0, y1, y2], _, [v0, v1, v2], _ =>
    have k3 : Try.prog.cellsOf 4 = 1 := by kernel_rfl
    have k4 : Try.prog.cellsOf 9 = 1 := by kernel_rfl
    have g0 : DataW.trod enc Try.prog W base spare held m 9 (([v0, v1, v2].drop 0).take (Try.prog.cellsOf 9)) = some y0 := hfi 0 _ rfl
    rw [k4] at g0
    replace g0 : DataW.trod enc Try.prog W base spare held m 9 [v0] = some y0 := g0
    have g1 : DataW.trod enc Try.prog W base spare held m 9 (([v0, v1, v2].drop 1).take (Try.prog.cellsOf 9)) = some y1 := hfi 1 _ rfl
    rw [k4] at g1
    replace g1 : DataW.trod enc Try.prog W base spare held m 9 [v1] = some y1 := g1
    have g2 : DataW.trod enc Try.prog W base spare held m 4 (([v0, v1, v2].drop 2).take (Try.prog.cellsOf 4)) = some y2 := hfi 2 _ rfl
    rw [k3] at g2
    replace g2 : DataW.trod enc Try.prog W base spare held m 4 [v2] = some y2 := g2
    obtain ⟨x0, q0, z0, _⟩ := DataW.trod_string Try.underlying9 g0
    obtain ⟨x1, q1, z1, _⟩ := DataW.trod_string Try.underlying9 g1
    obtain ⟨b2, q2, _⟩ := DataW.trod_bool Try.underlying4 g2
    have l0 := Light.part (j := 0) Try.underlying82 hl rfl rfl
    have l1 := Light.part (j := 1) Try.underlying82 hl rfl rfl
    rw [z0] at l0
    rw [z1] at l1
    injection q0 with q0
    injection q1 with q1
    injection q2 with q2
    exact ⟨⟨x0.data.toList, x1.data.toList, b2⟩, by rw [q0, q1, q2, sv_of x0, sv_of x1], l0.str, l1.str⟩
theorem rowsr_in (h : DataW.Trod enc Try.prog W base spare held 67 v d p) (hv : ∃ a len cap, v = .slice a len cap) (hl : Light Try.prog 67 d) :
    ∃ L, Rs W (fun _ => True) v L ∧ MFits L := by
  obtain ⟨L, h1, h2, h3⟩ := recs_in rol rol_len WFits Try.underlying67 (by kernel_rfl) (bts := 40) (by kernel_rfl) row_each hv h hl
  exact ⟨L, h1, h2, h3⟩
theorem rowr_in {r : Reach} {b0 : Nat} (h : DataW.Trod enc Try.prog W base spare held 82 v d p) (hv : Value.okWide Try.prog W r b0 82 v) (hl : Light Try.prog 82 d) :
    ∃ c : Ro, v = .agg (rar c) ∧ WFits c := by
  obtain ⟨cs, rfl, hsz⟩ := okWide_struct Try.underlying82 hv
  obtain ⟨fuel, hf⟩ := h
  obtain ⟨c, h1, h2⟩ := row_each _ _ _ hf hl
  have : cs = rar c := by
    apply Array.toList_inj.1
    simpa [Value.cells] using h1
  exact ⟨c, by rw [this], h2⟩
end
/-- A row as a cell. -/
def cellR (r : Ro) (s : Int) : Ce := ⟨r.key, r.val, r.del, s⟩
end Go.Proofs.Ytlfooppmdgddkaa
