/- ledger: numbered, names, remove; a Ledger in memory. -/
import Derived.Test.YtnmfkfjeihjkeaaDoorKpH
import Derived.Test.YtnmfkfjeihjkeaaDoorFrmI
namespace Go.Proofs.YtnmfkfjeihjkeaaDoor
open Go.RowKit Go.Maps Go.WideMaps
set_option maxRecDepth 100000

/-- A number, and bytes. -/
def numB (n : Nat) (p : List UInt8) : List UInt8 := enc7 n ++ (enc7 p.length ++ p)
theorem encs_one' (n : Nat) (h : n ≤ 4611686018427387904) : encs [(n : Int)] = enc7 n := by
  have : clamp (n : Int) = n := by unfold clamp; omega
  simp [encs, this]
theorem encr_one' (p : List UInt8) : encr [p] = enc7 p.length ++ p := by simp [encr]
set_option maxHeartbeats 4000000 in
theorem numbered_any {w : World} {S : Nat → Prop} {y : Value} {p : List UInt8} {n : Nat} (hy : Bs w S y p) (hS : ∀ k, S k → k < w.heap.size) (hn : n ≤ 1099511627777) (hp : p.length ≤ 1000000) :
    Calls Tryd.prog 99 #[.int .i64 (n : Int), y] w fun e w' => ∃ u, e = .returned u ∧ Own w' 5 u ((numB n p).map bv) ∧ Fresh w.heap.size u ∧ Ext w w' := by
  obtain ⟨A0, c0, rfl, -⟩ := hy.open_
  have hw0 : ∀ w : World, Wr (w.alloc (.cells #[.slice none 0 0] 153)) w.heap.size (.slice none 0 0) [] := fun w => ⟨Blk.new _ _ _, Own.nil _ _⟩
  have hnum : numB n p = [] ++ encs [(n : Int)] ++ encr [p] := by rw [encs_one' n (by omega), encr_one']; simp [numB]
  rw [hnum]
  have he1 : (encs [(n : Int)]).length ≤ 10 := encs_length [(n : Int)]
  have he2 : (encr [p]).length ≤ 1000100 := by
    rw [encr_one', List.length_append]
    have := enc7_length 9 p.length (by omega)
    omega
  clear hnum
  go_enter Tryd.func99, Tryd.ntmps99
  go_wp2_with fail
  have xA : Ext w (w.alloc (.cells #[.slice none 0 0] 153)) := (Mod.refl _ _).alloc _
  have hsA : (w.alloc (.cells #[.slice none 0 0] 153)).heap.size = w.heap.size + 1 := by simp
  have hi := Sl.one (w.alloc (.cells #[.slice none 0 0] 153)) 3 (iv (n : Int))
  rw [hsA] at hi
  have xB : Ext w ((w.alloc (.cells #[.slice none 0 0] 153)).alloc (.cells #[iv (n : Int)] 3)) := xA.alloc _
  have hsB : ((w.alloc (.cells #[.slice none 0 0] 153)).alloc (.cells #[iv (n : Int)] 3)).heap.size = w.heap.size + 2 := by simp
  have hwA : Wr ((w.alloc (.cells #[.slice none 0 0] 153)).alloc (.cells #[iv (n : Int)] 3)) w.heap.size (.slice none 0 0) [] := (hw0 w).mod ((Mod.refl (fun _ => False) _).alloc _) (fun h => h) (fun _ _ h => h)
  have hc := wnums_any (ns := [(n : Int)]) hwA hi (fun k _ hk hw => by rcases hw with hw | hw
                                                                       · omega
                                                                       · cases hw) (by simp)
  clear hi hwA hw0
  refine hc.mono ?_
  rintro e w1 ⟨rfl, v1, hw1, m1, n1⟩
  have x1 : Ext w w1 := xB.trans m1 (fun _ _ h => h) (fun k hk h => by rcases h with h | h
                                                                       · omega
                                                                       · cases h)
  have f1 : Fresh (w.heap.size + 1) v1 := n1.fresh (fresh_nil _ _ _) (by omega)
  have hz1 := m1.size
  rw [hsB] at hz1
  clear hc m1 n1 xB xA hsA hsB
  go_wp2_with fail
  have hr := Rw.one 32 (hy.mod x1 (fun _ _ _ h => h))
  have xC : Ext w1 (w1.alloc (.cells #[.slice A0 p.length c0] 32)) := (Mod.refl _ _).alloc _
  have hw2 : Wr (w1.alloc (.cells #[.slice A0 p.length c0] 32)) w.heap.size v1 ([] ++ encs [(n : Int)]) := hw1.mod xC (fun h => h) (fun _ _ h => h)
  have hown : ∀ k, v1.ownBlock = some k → k < w1.heap.size := fun k hk => hw1.row.lt hk
  have hc := wbytes_any (L := [p]) hw2 hr (fun k _ hk hw => by
    rcases hk with hk | hk
    · have := hS k hk
      rcases hw with hw | hw
      · omega
      · have := f1 k hw; omega
    · rcases hw with hw | hw
      · omega
      · have := hown k hw; omega) (by rw [List.nil_append]; omega)
  clear hr hw2 hw1
  refine hc.mono ?_
  rintro e w2 ⟨rfl, v2, hw2, m2, n2⟩
  have x2 : Ext w w2 := (ext_trans x1 xC).trans m2 (fun _ _ h => h) (fun k hk h => by
    rcases h with h | h
    · omega
    · have := f1 k h; omega)
  clear hc m2 n2 xC x1 hown
  go_wp2_with fail
  have hc := wout_any hw2 (by rw [List.length_append, List.nil_append]; omega)
  have hz2 := x2.size
  clear hw2
  refine hc.mono ?_
  rintro e w3 ⟨v3, rfl, o3, f3, x3, z3⟩
  go_wp2_with fail
  go_ret
  exact ⟨_, rfl, o3, fun k hk => by have := f3.symm.trans hk; injection this with this; omega, ext_trans x2 x3⟩
/-- What was left behind, and other files, taken away. -/
theorem lremove_any {S : Nat → Prop} {w : World} {d : Ds} {v : Value} (h : Dk S w v d) (t : List UInt8) (hl : t.length ≤ 1000000) :
    Calls Tryd.prog 65 #[v, sv t] w fun e w' => e = .returned (ev (rmT d t).2) ∧ Dk (Grow S w) w' v (rmT d t).1 ∧ Mod S w w' := by
  have hpv : ∃ bd, v = pv bd := by obtain ⟨bd, _, _, _, e, _⟩ := h; exact ⟨bd, e⟩
  obtain ⟨bd, rfl⟩ := hpv
  have hcr := read_any h t hl
  have hcase : (readD d t = none ∧ rmT d t = (d, 0)) ∨ (∃ b, readD d t = some b ∧ rmT d t = eachD removeD d [t]) := by
    unfold rmT
    cases hb : readD d t with
    | none => exact .inl ⟨rfl, by simp⟩
    | some b => exact .inr ⟨b, rfl, by simp⟩
  rcases hcase with ⟨hr1, hr2⟩ | ⟨b, hr1, hr2⟩
  · rw [hr2]
    rw [hr1, codeR_none] at hcr
    go_enter Tryd.func65, Tryd.ntmps65
    go_wp2_with fail
    refine hcr.mono ?_
    rintro e w1 ⟨u, rfl, -, -, x1⟩
    go_wp2_with fail
    go_ret
    exact ⟨rfl, (h.ext x1).grow w, x1.mono fun _ _ h => h.elim⟩
  · rw [hr2]
    rw [hr1, codeR_some] at hcr
    generalize hq : eachD removeD d [t] = r
    replace hq := Lib.hid hq
    go_enter Tryd.func65, Tryd.ntmps65
    go_wp2_with fail
    refine hcr.mono ?_
    rintro e w1 ⟨u, rfl, -, -, x1⟩
    have H1 := Held.start h x1
    have xa : Ext w1 (w1.alloc (.cells #[sv t] 9)) := (Mod.refl _ _).alloc _
    have hc := held_call H1 xa fun U hU hdk => Remove_any hdk (one_name w1 t) (sep_name (Nat.le_refl _) x1.size hU)
    rw [hq.out] at hc
    clear hcr H1 hq
    go_wp2_with fail
    refine hc.mono ?_
    rintro e w2 ⟨rfl, H2, -⟩
    clear hc
    go_wp2_with fail
    go_ret
    exact ⟨rfl, H2.dk, H2.mod⟩
end Go.Proofs.YtnmfkfjeihjkeaaDoor
