/- index: letters' case: upper. -/
import Derived.Test.YtacmbomnjedbeaaIkI
import Derived.Laws.IdiomStrings
namespace Go.Proofs.Ytacmbomnjedbeaa
open Go.RowKit
set_option maxRecDepth 100000

/-- Block g begins with these bytes, none of them frozen. -/
def Fz (w : World) (g : Nat) (l : List UInt8) : Prop := ∃ cur fz, w.heap[g]? = some (.cells cur 5 fz) ∧ l.length ≤ fz.1 ∧ l.length ≤ cur.size ∧ cur.toList.take l.length = l.map bv
section
variable {w : World} {g j : Nat} {l : List UInt8}
theorem Fz.cell (h : Fz w g l) (hj : j < l.length) : w.cell? ⟨g, j, none⟩ = some (bv l[j]) := by
  obtain ⟨cur, fz, h1, h2, h3, h4⟩ := h
  rw [cell_of_row w g j cur _ fz h1]
  have := congrArg (fun (a : List Value) => a[j]?) h4
  simp only [List.getElem?_take, List.getElem?_map, if_pos hj, List.getElem?_eq_getElem hj] at this
  simpa using this
theorem Fz.frozen (h : Fz w g l) (hj : j < l.length) : w.frozen? ⟨g, j, none⟩ = false := by
  obtain ⟨cur, ⟨lo, hi⟩, h1, h2, h3, h4⟩ := h
  simp only [World.frozen?, h1, Bool.and_eq_false_iff, decide_eq_false_iff_not]
  left
  simp only at h2
  omega
theorem Fz.set (h : Fz w g l) (_hj : j < l.length) (b : UInt8) : Fz (w.setCell ⟨g, j, none⟩ (bv b)) g (l.set j b) := by
  obtain ⟨cur, fz, h1, h2, h3, h4⟩ := h
  rw [setCell_eq_setRow w g j cur _ fz _ h1]
  refine ⟨cur.setIfInBounds j (bv b), fz, setRow_heap w g cur _ _ fz h1, by simpa using h2, by simpa using h3, ?_⟩
  rw [List.length_set, Array.toList_setIfInBounds, List.take_set, h4, List.map_set]
theorem Fz.bs (h : Fz w g l) {c : Nat} (hc : l.length ≤ c) (hm : c ≤ maxLen) : Bs w (fun k => k = g) (.slice (some ⟨g, 0, none⟩) l.length c) l :=
  ⟨some ⟨g, 0, none⟩, c, by simp, by simpa using hc, hm, by simp, fun j u hu => ⟨_, rfl, rfl, by
    have hj : j < l.length := by
      have := (List.getElem?_eq_some_iff.1 hu).1
      simpa using this
    rw [add_lit, h.cell hj]
    rw [List.getElem?_map, List.getElem?_eq_getElem hj] at hu
    exact hu⟩⟩
theorem Fz.mod {F : Nat → Prop} {w' : World} (h : Fz w g l) (hm : Mod F w w') (hn : ¬ F g) : Fz w' g l := by
  obtain ⟨cur, fz, h1, h2⟩ := h
  exact ⟨cur, fz, by rw [hm.block g (lt_of_block h1) hn]; exact h1, h2⟩
end
section
variable {w : World} {src dst : TypeId} {ops : Array Oper} {rest : List Oper} {o : Oper} {a : Act} {Q : Exit → Act → World → Prop}
theorem wp_tobF (hs : Try.prog.underlying src = some .string) (hd : Try.prog.underlying dst = some (.slice 5)) {l : List UInt8} (hm : l.length ≤ 1000000000)
    (hgd : o.guard = none) (s : Operand) (ho : o.op = .convert src dst s) (hv : a.eval s = sv l)
    (h : ∀ c w', l.length ≤ c → c ≤ maxLen → Fz w' w.heap.size l → Ext w w' → w'.heap.size = w.heap.size + 1 → wpList Try.prog ops Q rest (a.put o.dst (.slice (some ⟨w.heap.size, 0, none⟩) l.length c)) w') : wpList Try.prog ops Q (o :: rest) a w := by
  refine wpList_plain hgd fun K hK => ?_
  have hsz : (⟨l.toArray⟩ : ByteArray).size = l.length := by
    show l.toArray.size = l.length
    simp
  have hrun := run_bytes_of_string (P := Try.prog) w src dst 5 ⟨l.toArray⟩ hs hd Try.underlying5
  have hge := grownCap_ge w (⟨l.toArray⟩ : ByteArray).size 0 5
  have hle := grownCap_le_maxLen w (⟨l.toArray⟩ : ByteArray).size 0 5 (by rw [hsz]; simp only [maxLen]; omega)
  rw [hsz] at hrun hge hle
  generalize grownCap w l.length 0 5 = c at *
  obtain ⟨fr, hfr⟩ : ∃ fr, fr = ((bytesRow ⟨l.toArray⟩ c).size, (bytesRow ⟨l.toArray⟩ c).size + 1) := ⟨_, rfl⟩
  rw [← hfr] at hrun
  have hrs : l.length ≤ (bytesRow ⟨l.toArray⟩ c).size := by unfold bytesRow; simp
  unfold Oper.wp execOp
  simp only [ho, hv, Sem.run_bind, Sem.run_pure, Result.andThen_ok, hrun]
  refine hK _ _ (h c _ (by omega) hle ⟨_, fr, heap_alloc_new w.drew _, by rw [hfr]; exact hrs, hrs, ?_⟩ (((Mod.refl _ w).drew).alloc _) (by simp))
  unfold bytesRow
  simp
end
def up (b : UInt8) : UInt8 := if 97 ≤ b.toNat ∧ b.toNat ≤ 122 then b - 32 else b
theorem up_sub {b : UInt8} (h : 97 ≤ b.toNat ∧ b.toNat ≤ 122) : (up b).toNat = b.toNat - 32 := by
  unfold up
  rw [if_pos h, UInt8.toNat_sub]
  simp
  omega
theorem lowI_up (b : UInt8) : low (up b) = low b := by
  by_cases h : 97 ≤ b.toNat ∧ b.toNat ≤ 122
  · have h1 := up_sub h
    have h2 : low b = b := by unfold low; rw [if_neg (by omega)]
    rw [h2]
    unfold low
    rw [if_pos (by omega)]
    apply UInt8.toNat_inj.1
    rw [UInt8.toNat_add, h1]
    simp
    omega
  · have : up b = b := by unfold up; rw [if_neg h]
    rw [this]
theorem foldl_up : ∀ (s o : List UInt8), (s.map up).foldl fstep o = s.foldl fstep o
  | [], _ => rfl
  | b :: s, o => by
    rw [List.map_cons, List.foldl_cons, List.foldl_cons, foldl_up s]
    congr 1
    unfold fstep
    rw [lowI_up]
theorem fold_up (s : List UInt8) : foldB (s.map up) = foldB s := by unfold foldB; rw [foldl_up]
theorem normV_up (s : List UInt8) : normV (s.map up) = normV s := by
  unfold normV
  rw [fold_up]
  simp
theorem textB_up (s : List UInt8) : normM 1 (s.map up) = normM 1 s := by
  unfold normM
  rw [List.length_map]
  simp only [if_true]
  unfold textB
  rw [normV_up]
  simp
theorem norm_up (L : List Av) : norm (L.map fun a => (a.1.map up, a.2.map up)) = norm L := by
  unfold norm
  rw [List.map_map]
  apply List.map_congr_left
  intro a _
  show normA (a.1.map up, a.2.map up) = normA a
  unfold normA
  rw [fold_up, normV_up]
set_option maxHeartbeats 8000000 in
theorem upper_any {w : World} {s : List UInt8} (hs : s.length ≤ 1000000) :
    Calls Try.prog 19 #[sv s] w fun e w' => e = .returned (sv (s.map up)) ∧ Ext w w' := by
  go_enter Try.func19, Try.ntmps19
  go_wp2_with ((with_reducible show wpList _ _ _ (⟨some 6, _, _, _, _, _⟩ :: _) _ _); refine wp_tobF Try.underlying9 Try.underlying65 (l := s) (by omega) rfl (.tmp 5) rfl rfl ?_; intro c w1 hc hm F1 x1 hz)
  obtain ⟨g, hg⟩ : ∃ g, g = w.heap.size := ⟨_, rfl⟩
  rw [← hg] at F1 hz ⊢
  replace hg := Lib.hid hg
  go_loopw [4] (fun i wr => ∃ k : Nat, k ≤ s.length ∧ i = .int .i64 k ∧ Fz wr g ((s.take k).map up ++ s.drop k) ∧ Ext w wr) (fun i _ => s.length - (intOf i).toNat)
  case atStart => exact ⟨0, Nat.zero_le _, rfl, by simpa using F1, x1⟩
  case round =>
    clear F1 x1
    obtain ⟨k, hk, rfl, F1, x1⟩ := hrel
    by_cases hlt : k < s.length
    case neg =>
      have hbl : decide ((k : Int) < (s.length : Int)) = false := dfalse (by omega)
      have hbn : decide (k < s.length) = false := dfalse (by omega)
      have e : (s.take k).map up ++ s.drop k = s.map up := by
        rw [List.take_of_length_le (by omega), List.drop_of_length_le (by omega), List.append_nil]
      rw [e] at F1
      have hb := F1.bs (c := c) (by simpa using hc) hm
      rw [List.length_map] at hb
      have hcv := run_conv (P := Try.prog) (dst := 9) Try.underlying65 Try.underlying5 Try.underlying9 hb
      clear e
      go_wp2_with fail
      go_ret
      exact ⟨rfl, x1⟩
    have hbl : decide ((k : Int) < (s.length : Int)) = true := dtrue (by omega)
    have hbn : decide (k < s.length) = true := dtrue (by omega)
    have hi0 : (0 : Int) ≤ (k : Int) := by omega
    have hi1 : (k : Int) < (s.length : Int) := by omega
    have hl : k < ((s.take k).map up ++ s.drop k).length := by simp; omega
    have hlk : ((s.take k).map up ++ s.drop k)[k] = s[k] := by
      rw [List.getElem_append_right (by simp; omega)]
      simp [Nat.min_eq_left hk]
    have hc0 := F1.cell hl
    have hf0 := F1.frozen hl
    have hset := F1.set hl (up s[k])
    have hnx : ((s.take k).map up ++ s.drop k).set k (up s[k]) = (s.take (k + 1)).map up ++ s.drop (k + 1) := by
      rw [List.set_append_right _ _ (by simp; omega), List.take_succ_eq_append_getElem hlt, List.map_append, List.append_assoc]
      congr 1
      have e0 : k - (List.map up (List.take k s)).length = 0 := by simp; omega
      rw [e0, List.drop_eq_getElem_cons hlt]
      rfl
    have hsame : up s[k] = s[k] → Fz wr g ((s.take (k + 1)).map up ++ s.drop (k + 1)) := fun h => by
      rw [← hnx, h, ← hlk, List.set_getElem_self]
      exact F1
    rw [hnx] at hset
    rw [hlk] at hc0
    clear hnx hlk hc
    generalize s[k] = b at *
    by_cases h1 : 97 ≤ b.toNat
    case neg =>
      have hb1 : decide ((97 : Int) ≤ (b.toNat : Int)) = false := dfalse (by omega)
      have hb2 : decide (97 ≤ b.toNat) = false := dfalse (by omega)
      have F2 := hsame (by unfold up; rw [if_neg (by omega)])
      clear hsame hset
      go_wp2_with fail
      exact ⟨⟨k + 1, by omega, by go_num, F2, x1⟩, by simp [intOf] <;> omega⟩
    have hb1 : decide ((97 : Int) ≤ (b.toNat : Int)) = true := dtrue (by omega)
    have hb2 : decide (97 ≤ b.toNat) = true := dtrue (by omega)
    by_cases h2 : b.toNat ≤ 122
    case neg =>
      have hb3 : decide ((b.toNat : Int) ≤ (122 : Int)) = false := dfalse (by omega)
      have hb4 : decide (b.toNat ≤ 122) = false := dfalse (by omega)
      have F2 := hsame (by unfold up; rw [if_neg (by omega)])
      clear hsame hset
      go_wp2_with fail
      exact ⟨⟨k + 1, by omega, by go_num, F2, x1⟩, by simp [intOf] <;> omega⟩
    have hb3 : decide ((b.toNat : Int) ≤ (122 : Int)) = true := dtrue (by omega)
    have hb4 : decide (b.toNat ≤ 122) = true := dtrue (by omega)
    have hus := up_sub ⟨h1, h2⟩
    have huv : bv (up b) = .int .u8 ((b.toNat : Int) - 32) := by
      show Value.int .u8 ((up b).toNat : Int) = _
      rw [hus]
      congr 1
      omega
    rw [huv] at hset
    have hx : Ext w (wr.setCell ⟨g, k, none⟩ (.int .u8 ((b.toNat : Int) - 32))) := x1.setCell (fun h => by have := hg.out; exact absurd h (by show ¬ g < w.heap.size; omega)) _
    clear hsame huv hus
    go_wp2_with fail
    exact ⟨⟨k + 1, by omega, by go_num, hset, hx⟩, by simp [intOf] <;> omega⟩
end Go.Proofs.Ytacmbomnjedbeaa
