/- keep: a Disk through many calls; what is loaded; Load. -/
import Derived.Test.YtblfhonfjljndaaDoorDkX
import Derived.Test.YtblfhonfjljndaaDoorFrmF
namespace Go.Proofs.YtblfhonfjljndaaDoor
open Go.RowKit Go.Maps Go.WideMaps
set_option maxRecDepth 100000

/-- A Disk of S at w; since w1 all its new blocks have come. -/
def Held (S : Nat → Prop) (w w1 wj : World) (v : Value) (d : Ds) : Prop :=
  ∃ T, Dk T wj v d ∧ (∀ k, T k → (S k ∧ k < w.heap.size) ∨ (w1.heap.size ≤ k ∧ k < wj.heap.size)) ∧ Mod S w wj ∧ w.heap.size ≤ w1.heap.size ∧ w1.heap.size ≤ wj.heap.size
/-- The Disk of a law: its blocks are new since w. -/
abbrev Hold (w wj : World) (v : Value) (d : Ds) : Prop := Held (fun _ => False) w w wj v d
section
variable {S : Nat → Prop} {w w1 wj wa : World} {v : Value} {d d' : Ds}
theorem Held.start (h : Dk S w v d) (hx : Ext w w1) : Held S w w1 w1 v d := ⟨_, h.cut.ext hx, fun _ hk => .inl hk, hx.mono fun _ _ h => h.elim, hx.size, Nat.le_refl _⟩
theorem Held.ext (h : Held S w w1 wj v d) (hx : Ext wj wa) : Held S w w1 wa v d := by
  obtain ⟨T, h1, h2, h3, h4, h5⟩ := h
  exact ⟨T, h1.ext hx, fun k hk => (h2 k hk).imp id fun ⟨a, b⟩ => ⟨a, Nat.lt_of_lt_of_le b hx.size⟩, h3.then_ hx fun _ _ h => h.elim, h4, Nat.le_trans h5 hx.size⟩
theorem Held.dk (h : Held S w w1 wj v d) : Dk (Grow S w) wj v d := by
  obtain ⟨T, h1, h2, _, h4, _⟩ := h
  exact h1.mono fun k _ hk => (h2 k hk).elim (fun h => .inl h.1) fun h => .inr (Nat.le_trans h4 h.1)
theorem Held.mod (h : Held S w w1 wj v d) : Mod S w wj := by obtain ⟨_, _, _, h3, _⟩ := h; exact h3
theorem Held.xt (h : Hold w wj v d) : Ext w wj := h.mod
theorem held_call {P : Program} {f : FuncId} {args : Array Value} {E : Ending → Prop} (h : Held S w w1 wj v d) (hx : Ext wj wa)
    (hc : ∀ T, (∀ k, T k → (S k ∧ k < w.heap.size) ∨ (w1.heap.size ≤ k ∧ k < wj.heap.size)) → Dk T wa v d → Calls P f args wa fun e w' => E e ∧ Dk (Grow T wa) w' v d' ∧ Mod T wa w') :
    Calls P f args wa fun e w' => E e ∧ Held S w w1 w' v d' ∧ Mod (fun k => (S k ∧ k < w.heap.size) ∨ (w1.heap.size ≤ k ∧ k < wj.heap.size)) wa w' := by
  obtain ⟨T, h1, h2, h3, h4, h5⟩ := h
  refine (hc T h2 (h1.ext hx)).mono fun e w' ⟨q1, q2, q3⟩ => ⟨q1, ⟨_, q2.cut, ?_, ?_, h4, ?_⟩, q3.mono fun k _ hk => h2 k hk⟩
  · rintro k ⟨hk, hlt⟩
    rcases hk with hk | hk
    · exact (h2 k hk).imp id fun a => ⟨a.1, hlt⟩
    · exact .inr ⟨Nat.le_trans (Nat.le_trans h5 hx.size) hk, hlt⟩
  · refine (h3.then_ hx fun _ _ h => h.elim).then_ q3 fun k hk ht => ?_
    rcases h2 k ht with h | h
    · exact h.1
    · omega
  · exact Nat.le_trans (Nat.le_trans h5 hx.size) q3.size
theorem Held.read (h : Held S w w1 wj v d) (x : List UInt8) (hl : x.length ≤ 1000000) :
    Calls Tryd.prog 24 #[v, sv x] wj fun e w' => ∃ u, e = .returned (.tuple #[u, ev (codeR (readD d x))]) ∧ Own w' 5 u (((readD d x).getD []).map bv) ∧ Fresh wj.heap.size u ∧ Ext wj w' := by
  obtain ⟨T, h1, _⟩ := h
  exact read_any h1 x hl
theorem new_hold {w0 : World} (room : Int) (h0 : 0 ≤ room) (h1 : room ≤ 1073741824) (hx : Ext w0 w) :
    Calls Tryd.prog 6 #[.int .i64 room] w fun e w' => ∃ bd, e = .returned (.tuple #[pv bd, ev 0]) ∧ Hold w0 w' (pv bd) (newD room) :=
  (new_any room h0 h1).mono fun e w' ⟨bd, q1, q2, _, q4⟩ => ⟨bd, q1, _, q2.cut, fun k hk => .inr ⟨Nat.le_trans hx.size hk.1, hk.2⟩, ext_trans hx q4, Nat.le_refl _, Nat.le_trans hx.size q4.size⟩
theorem Dk.len (h : Dk S w v d) {x b : List UInt8} (hb : readD d x = some b) : b.length ≤ 1073741824 := by
  obtain ⟨bd, bm, D, G, rfl, h⟩ := h
  unfold readD at hb
  cases hg : getF d.L x with
  | none => rw [hg] at hb; cases hb
  | some f =>
    rw [hg] at hb
    injection hb with hb
    have := sumB_delF (x := x) h.rise
    rw [hg] at this
    simp only [lenB] at this
    have h1 := h.room
    have h2 := h.most
    rw [← hb]
    omega
/-- What a file holds, or the error. -/
def loadD (d : Ds) (x : List UInt8) : List UInt8 × Nat := match readD d x with
  | none => ([], 7)
  | some b => if (oneR b).2 = 0 then ((oneR b).1, 0) else ([], 3)
theorem codeR_some (b : List UInt8) : codeR (some b) = 0 := rfl
theorem codeR_none : codeR none = 7 := rfl
theorem getD_some (b : List UInt8) : (some b).getD [] = b := rfl
set_option maxHeartbeats 4000000 in
theorem load_any (h : Dk S w v d) (x : List UInt8) (hl : x.length ≤ 1000000) (hN : Nib w) :
    Calls Tryd.prog 10 #[v, sv x] w fun e w' => ∃ u, e = .returned (.tuple #[u, ev (loadD d x).2]) ∧ Own w' 5 u ((loadD d x).1.map bv) ∧ Fresh w.heap.size u ∧ Ext w w' := by
  have hcr := read_any h x hl
  have hlen := fun b => h.len (x := x) (b := b)
  have hp : ∃ bd, v = pv bd := by obtain ⟨bd, _, _, _, e, _⟩ := h; exact ⟨bd, e⟩
  obtain ⟨bd, rfl⟩ := hp
  clear h
  cases hx : readD d x with
  | none =>
    have e : loadD d x = ([], 7) := by unfold loadD; rw [hx]
    rw [e]
    rw [hx, codeR_none] at hcr
    clear hlen hx e
    go_enter Tryd.func10, Tryd.ntmps10
    go_wp2_with fail
    refine hcr.mono ?_
    rintro e w1 ⟨u, rfl, o1, f1, x1⟩
    clear hcr
    go_wp2_with fail
    go_ret2
    exact ⟨_, rfl, Own.nil _ _, fresh_nil _ _ _, x1⟩
  | some b =>
    have hb := hlen b hx
    obtain ⟨R, hR⟩ : ∃ R, R = loadD d x := ⟨_, rfl⟩
    rw [← hR]
    have e : loadD d x = if (oneR b).2 = 0 then ((oneR b).1, 0) else ([], 3) := by unfold loadD; rw [hx]
    rw [e] at hR
    rw [hx, codeR_some, getD_some] at hcr
    clear hlen hx e
    obtain ⟨q, hq⟩ : ∃ q, q = oneR b := ⟨_, rfl⟩
    rw [← hq] at hR
    replace hq := Lib.hid hq
    obtain ⟨p, n⟩ := q
    have hR2 : Hid ((n = 0 ∧ R = (p, 0)) ∨ (n ≠ 0 ∧ R = ([], 3))) := Lib.hid (by
      by_cases hn : n = 0
      · exact .inl ⟨hn, by rw [hR, if_pos hn]⟩
      · exact .inr ⟨hn, by rw [hR, if_neg hn]⟩)
    clear hR
    go_enter Tryd.func10, Tryd.ntmps10
    go_wp2_with fail
    refine hcr.mono ?_
    rintro e w1 ⟨u, rfl, o1, f1, x1⟩
    clear hcr
    have hc := one_any o1.sl (hN.mod x1 (fun h => h)) (by omega)
    rw [← hq.out] at hc
    have hs := x1.size
    clear o1 f1
    go_wp2_with fail
    refine hc.mono ?_
    rintro e w2 ⟨u2, rfl, o2, f2, x2⟩
    have y2 := ext_trans x1 x2
    have f3 : Fresh w.heap.size u2 := f2.mono hs
    clear hc x1 x2 f2 hb hq
    rcases hR2.out with ⟨rfl, rfl⟩ | ⟨hn, rfl⟩
    · go_wp2_with fail
      go_ret2
      exact ⟨_, rfl, o2, f3, y2⟩
    · have hb := n_ne0 hn
      go_wp2_with fail
      go_ret2
      exact ⟨_, rfl, Own.nil _ _, fresh_nil _ _ _, y2⟩
end
end Go.Proofs.YtblfhonfjljndaaDoor
